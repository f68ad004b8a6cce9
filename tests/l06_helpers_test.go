package tests

import (
	"fmt"
	"iter"
	"math/rand"
	"slices"
	"strconv"
	"strings"

	"loop.example/g01405/impl"
)

// plot is a lawn with its levels.
type plot struct {
	l impl.Lawn
	g impl.Levels
}

// plotOf makes a plot of rows: a number is the level of grass, and "#", "T" and "=" are other kinds.
func plotOf(rows ...string) plot {
	var p plot
	var kinds []string
	for y, row := range rows {
		kind := ""
		for x, word := range strings.Fields(row) {
			if level, err := strconv.Atoi(word); err == nil {
				p.g[y][x] = int8(level)
				word = "."
			}
			kind += word
		}
		kinds = append(kinds, kind)
	}
	p.l = lawnOf(kinds...)
	return p
}

// String returns the rows of which a plot is made.
func (p plot) String() string {
	text := ""
	for _, at := range cellsOf(p.l) {
		word := ".#T="[kindOf(p.l, at):][:1]
		if word == "." {
			word = strconv.Itoa(p.at(at))
		}
		text += word + " "
		if at.X == p.l.Wide-1 {
			text += "/ "
		}
	}
	return text
}

// at returns the level of a cell.
func (p plot) at(cell impl.Cell) int { return int(p.g[cell.Y][cell.X]) }

// with returns a plot with another level of one cell.
func (p plot) with(at impl.Cell, level int) plot {
	p.g[at.Y][at.X] = int8(level)
	return p
}

// slope is the plot of the document's example of chapter 6.
func slope() plot { return plotOf("2 0 -1 -1") }

// sum tells the sum of the levels of all grass.
func (p plot) sum() int64 {
	sum := 0
	for _, at := range grassOf(p.l) {
		sum += p.at(at)
	}
	return int64(sum)
}

// isSound reports whether levels are valid for a lawn that is valid.
func (p plot) isSound() bool {
	for y := range int8(10) {
		for x := range int8(10) {
			at := impl.Cell{X: x, Y: y}
			if level := p.at(at); level < -9 || level > 9 || level != 0 && !hasGrass(p.l, at) {
				return false
			}
		}
	}
	return true
}

// everyPlot goes through all plots with grass alone, of a size, with some levels.
func everyPlot(wide, high int8, levels ...int) iter.Seq[plot] {
	return func(yield func(plot) bool) {
		cells := cellsOf(impl.Lawn{Wide: wide, High: high})
		all := 1
		for range cells {
			all *= len(levels)
		}
		for number := range all {
			p := plot{l: impl.Lawn{Wide: wide, High: high}}
			for _, at := range cells {
				p = p.with(at, levels[number%len(levels)])
				number /= len(levels)
			}
			if !yield(p) {
				return
			}
		}
	}
}

// filled returns a plot in which all grass has the same level.
func filled(l impl.Lawn, level int) plot {
	p := plot{l: l}
	for _, at := range grassOf(l) {
		p = p.with(at, level)
	}
	return p
}

// randomPlot returns a plot with levels from a lowest one to a highest one, many of them equal now and then.
func randomPlot(random *rand.Rand, l impl.Lawn) plot {
	p := plot{l: l}
	lowest, highest := -9, 9
	switch random.Intn(4) {
	case 0:
		lowest, highest = -1, 1
	case 1:
		lowest, highest = 6, 9
	case 2:
		lowest = -9 + random.Intn(18)
		highest = lowest + random.Intn(10-lowest)
	}
	for _, at := range grassOf(l) {
		p = p.with(at, lowest+random.Intn(highest-lowest+1))
	}
	return p
}

// plots goes through plots of all sizes: small ones, those with one row or column, those with equal levels, and some of any size, the same ones each time.
func plots(count int) iter.Seq[plot] {
	return func(yield func(plot) bool) {
		list := []plot{slope(), plotOf("#"), plotOf("T"), plotOf("="), plotOf("0 # 0"), plotOf("9 = -9"), plotOf("0 0 0", "0 # 0", "0 0 0")}
		for _, all := range []iter.Seq[plot]{
			everyPlot(1, 1, -9, -8, -1, 0, 1, 8, 9), everyPlot(3, 1, -9, -1, 0, 2, 9), everyPlot(1, 3, -9, 0, 1, 3, 9), everyPlot(2, 2, -1, 0, 1),
		} {
			list = slices.AppendSeq(list, all)
		}
		for _, level := range []int{-9, -1, 0, 8, 9} {
			for _, size := range [][2]int8{{10, 10}, {10, 1}, {1, 10}, {4, 3}} {
				list = append(list, filled(fullLawn(size[0], size[1], 0), level))
			}
		}
		for kind := range uint8(3) {
			list = append(list, plot{l: fullLawn(10, 10, kind+1)})
		}
		random := rand.New(rand.NewSource(31))
		for l := range edgeLawns(count) {
			list = append(list, randomPlot(random, l))
		}
		for _, p := range list {
			if !yield(p) {
				return
			}
		}
	}
}

// balanced returns a plot with so many units above 0, and as many below it.
func balanced(random *rand.Rand, l impl.Lawn, units int) plot {
	p := plot{l: l}
	grass := grassOf(l)
	if len(grass) < 2 {
		return p
	}
	random.Shuffle(len(grass), func(i, k int) { grass[i], grass[k] = grass[k], grass[i] })
	half := 1 + random.Intn(len(grass)-1)
	for units > 0 {
		from, to := anyOf(random, grass[:half]), anyOf(random, grass[half:])
		if p.at(from) == 9 || p.at(to) == -9 {
			// With few cells there may be no room for so many.
			break
		}
		p = p.with(from, p.at(from)+1).with(to, p.at(to)-1)
		units--
	}
	return p
}

// haulBy tells the plot behind a haul, and the code.
func haulBy(p plot, h impl.Haul) (plot, int64) {
	cells := cellsOf(p.l)
	switch {
	case !slices.Contains(cells, h.From), !slices.Contains(cells, h.To), h.Amount < 1, h.Amount > 18:
		return plot{}, impl.ErrRange
	case !hasGrass(p.l, h.From), !hasGrass(p.l, h.To), h.From == h.To:
		return plot{}, impl.ErrState
	case p.at(h.From)-int(h.Amount) < -9, p.at(h.To)+int(h.Amount) > 9:
		return plot{}, impl.ErrState
	}
	return p.with(h.From, p.at(h.From)-int(h.Amount)).with(h.To, p.at(h.To)+int(h.Amount)), impl.OK
}

// evenBy tells the levels that are shared evenly: all soil above the lowest level is dealt, one to each cell in turn, those with the most first.
func evenBy(p plot) (plot, int64) {
	cells := grassOf(p.l)
	slices.SortFunc(cells, func(a, b impl.Cell) int {
		if p.at(a) != p.at(b) {
			return p.at(b) - p.at(a)
		}
		return cellOrder(a, b)
	})
	even := filled(p.l, -9)
	for n := range int(p.sum()) + 9*len(cells) {
		at := cells[n%len(cells)]
		even = even.with(at, even.at(at)+1)
	}
	// What cells lose others get.
	differ := 0
	for _, at := range cells {
		differ += max(p.at(at)-even.at(at), even.at(at)-p.at(at))
	}
	return even, int64(differ / 2)
}

// stepsBy tells how many steps it takes from a cell to all open ones: less is told of some, again and again, until nothing is.
func stepsBy(l impl.Lawn, from impl.Cell) map[impl.Cell]int64 {
	steps := map[impl.Cell]int64{}
	for _, at := range openIn(l) {
		steps[at] = farthest
	}
	steps[from] = 0
	for again := true; again; {
		again = false
		for at, count := range steps {
			for _, letter := range []byte(letters) {
				if next := gone(at, letter); hasOpen(l, next) && count+1 < steps[next] {
					steps[next], again = count+1, true
				}
			}
		}
	}
	return steps
}

// unitsBy lists the cells of all units above 0, and of all below it.
func unitsBy(p plot) (above, below []impl.Cell) {
	for _, at := range grassOf(p.l) {
		above = append(above, slices.Repeat([]impl.Cell{at}, max(0, p.at(at)))...)
		below = append(below, slices.Repeat([]impl.Cell{at}, max(0, -p.at(at)))...)
	}
	return above, below
}

// haulsBy tells the first hauls with the fewest steps, by all orders of what is below 0.
func haulsBy(p plot) ([]impl.Haul, int64, int64) {
	above, below := unitsBy(p)
	if len(above) != len(below) {
		return nil, 0, impl.ErrState
	}
	if len(above) > impl.MaxHaul {
		return nil, 0, impl.ErrLimit
	}
	var steps []map[impl.Cell]int64
	for _, at := range above {
		steps = append(steps, stepsBy(p.l, at))
	}
	var best []impl.Cell
	least := int64(farthest)
	for order := range everyOrder(len(below)) {
		var to []impl.Cell
		sum := int64(0)
		for i, place := range order {
			to = append(to, below[place])
			sum += steps[i][below[place]]
		}
		if sum < least || sum == least && slices.CompareFunc(to, best, cellOrder) < 0 {
			best, least = to, sum
		}
	}
	if least >= farthest {
		return nil, 0, impl.ErrNotFound
	}
	var hauls []impl.Haul
	for i, to := range best {
		hauls = append(hauls, impl.Haul{From: above[i], To: to, Amount: 1})
	}
	return hauls, least, impl.OK
}

// leastBySets tells how few steps are enough, by all sets of what is below 0: each one is filled by as many units, from the first one on.
func leastBySets(p plot) int64 {
	above, below := unitsBy(p)
	least := []int64{0}
	for set := 1; set < 1<<len(below); set++ {
		filled := 0
		for i := range below {
			filled += set >> i & 1
		}
		steps := stepsBy(p.l, above[filled-1])
		best := int64(farthest)
		for i, to := range below {
			if set>>i&1 == 1 {
				best = min(best, least[set&^(1<<i)]+steps[to])
			}
		}
		least = append(least, best)
	}
	return least[len(least)-1]
}

// rollBy tells a row that is rolled, and how many units have gone: one after the other, as long as it is still too steep.
func rollBy(p plot, y int8) (plot, int64) {
	gone := int64(0)
	for x := range p.l.Wide - 1 {
		here, next := impl.Cell{X: x, Y: y}, impl.Cell{X: x + 1, Y: y}
		for hasGrass(p.l, here) && hasGrass(p.l, next) && p.at(here) > p.at(next)+1 {
			p = p.with(here, p.at(here)-1).with(next, p.at(next)+1)
			gone++
		}
	}
	return p, gone
}

// moleBy tells the plot behind a night of a mole, and its cell: the first one of those beside, ordered by level, but where it was before at last.
func moleBy(p plot, at, before impl.Cell) (plot, impl.Cell) {
	ways := slices.DeleteFunc(grassOf(p.l), func(next impl.Cell) bool { return !beside(at, next) })
	rank := func(next impl.Cell) int {
		if next == before {
			return 1000
		}
		return p.at(next)
	}
	slices.SortStableFunc(ways, func(a, b impl.Cell) int { return rank(a) - rank(b) })
	to := append(ways, at)[0]
	return p.with(to, min(9, p.at(to)+1)), to
}

// nightsBy tells the plot behind several nights of a mole, and its cells.
func nightsBy(p plot, at impl.Cell, nights int64) (plot, []impl.Cell) {
	cells := []impl.Cell{at}
	for before := at; nights > 0; nights-- {
		was := at
		p, at = moleBy(p, at, before)
		before, cells = was, append(cells, at)
	}
	return p, cells
}

// trapBy tells the first cell of grass to which the most moles come, and how many these are.
func trapBy(p plot, nights int64) (impl.Cell, int64) {
	var walks [][]impl.Cell
	for _, start := range grassOf(p.l) {
		_, cells := nightsBy(p, start, nights)
		walks = append(walks, cells)
	}
	return mostBy(grassOf(p.l), func(trap impl.Cell) int64 {
		count := int64(0)
		for _, walk := range walks {
			if slices.Contains(walk, trap) {
				count++
			}
		}
		return count
	})
}

// mostBy tells the first cell with the greatest number, and this.
func mostBy(cells []impl.Cell, number func(impl.Cell) int64) (impl.Cell, int64) {
	var most impl.Cell
	greatest := int64(-1)
	for _, at := range reversed(cells) {
		if n := number(at); n >= greatest {
			most, greatest = at, n
		}
	}
	return most, greatest
}

// timesIn counts how often a cell is in a list.
func timesIn(list []impl.Cell) func(impl.Cell) int64 {
	return func(at impl.Cell) int64 {
		count := int64(0)
		for _, one := range list {
			if one == at {
				count++
			}
		}
		return count
	}
}

// mirrorBy tells the levels with west and east exchanged, and the code.
func mirrorBy(p plot) (plot, int64) {
	mirrored := plot{l: p.l}
	for _, at := range cellsOf(p.l) {
		mirrored = mirrored.with(impl.Cell{X: p.l.Wide - 1 - at.X, Y: at.Y}, p.at(at))
	}
	if !mirrored.isSound() {
		return plot{}, impl.ErrState
	}
	return mirrored, impl.OK
}

// levelsTextBy tells the text of levels.
func levelsTextBy(p plot) string {
	text := ""
	for y := range p.l.High {
		text += strings.Trim(fmt.Sprint(p.g[y][:p.l.Wide]), "[]") + "\n"
	}
	return text
}

// badLevels returns levels that are not valid for the lawn of a plot, which is valid itself.
func badLevels(p plot) []impl.Levels {
	var list []impl.Levels
	for y := range int8(10) {
		for x := range int8(10) {
			at := impl.Cell{X: x, Y: y}
			for _, level := range []int{-128, -10, -9, -1, 1, 9, 10, 127} {
				if level > 9 || level < -9 || !hasGrass(p.l, at) {
					list = append(list, p.with(at, level).g)
				}
			}
		}
	}
	return list
}

// noLevels returns numbers that are no levels.
func noLevels() []int64 {
	return []int64{-10, 10, -11, 11, 18, -18, 127, -128, 256, 265, 1 << 32, -1 << 32, 1<<32 + 5, -1 << 63, 1<<63 - 1, 1<<63 - 9, -1<<63 + 9}
}

// noNights returns numbers that are no nights.
func noNights() []int64 {
	return []int64{-1, -2, -60, 61, 62, 100, 256, 1 << 32, 1<<32 + 5, -1 << 63, 1<<63 - 1}
}

// noAmounts returns numbers that are no amounts.
func noAmounts() []int8 { return []int8{0, -1, -2, -9, -18, -128, 19, 20, 64, 127} }

// thicket is the lawn of whose levels noLevelsTexts has no text.
func thicket() impl.Lawn { return lawnOf("..", "#.") }

// noLevelsTexts returns texts that are those of no levels of the thicket.
func noLevelsTexts() []string {
	list := []string{
		"", "\n", "\n\n", " ", "x", "0", "0 0", "0 0\n", "0 0\n0 0", "0 0\n0 0\n\n", "0 0\n0 0\n0 0\n", "\n0 0\n0 0\n", "0 0\n\n0 0\n", "0 0\n0 0\n0", "0 0\n0 0\n ", "0 0\n0 0\nx", "0 0 0 0\n", "0\n0\n0\n0\n",
		"0 0\n0\n", "0\n0 0\n", "0 0\n0 0 0\n", "0 0 0\n0 0\n", "0 0 0\n0 0 0\n", "0\n0\n", "0 0\n\n", "\n0 0\n", "0 0 0\n0\n", "0\n0 0 0\n",
		"01 0\n0 0\n", "0 01\n0 0\n", "0 0\n0 09\n", "00 0\n0 0\n", "0 0\n0 00\n", "0 0\n00 0\n", "-01 0\n0 0\n", "0 0\n0 -00\n", "0 0\n0 -09\n",
		"+1 0\n0 0\n", "0 0\n0 +1\n", "+0 0\n0 0\n", "0 0\n0 +0\n", "--1 0\n0 0\n", "0 0\n0 --1\n", "+-1 0\n0 0\n", "-+1 0\n0 0\n", "1- 0\n0 0\n", "0 0\n0 1-\n", "- 0\n0 0\n", "0 0\n0 -\n", "- 1 0\n0 0\n", "0 0\n0 - 1\n",
		"-0 0\n0 0\n", "0 -0\n0 0\n", "0 0\n-0 0\n", "0 0\n0 -0\n",
		" 0 0\n0 0\n", "0 0\n 0 0\n", "0 0 \n0 0\n", "0 0\n0 0 \n", "0  0\n0 0\n", "0 0\n0  0\n", "0 0\n0 0\n ", " \n0 0\n", "  \n0 0\n", "0 0\n \n", "0 \n0 0\n", " 0\n0 0\n", "0 0\n0 \n", "0 0\n 0\n",
		"10 0\n0 0\n", "0 0\n0 10\n", "-10 0\n0 0\n", "0 0\n0 -10\n", "99 0\n0 0\n", "0 127\n0 0\n", "0 128\n0 0\n", "0 -128\n0 0\n", "0 -129\n0 0\n", "256 0\n0 0\n", "0 0\n0 257\n", "0 0\n0 -256\n", "4294967296 0\n0 0\n", "18446744073709551616 0\n0 0\n", "18446744073709551617 0\n0 0\n",
		"0 0\n1 0\n", "0 0\n-1 0\n", "0 0\n9 0\n", "0 0\n-9 0\n", "0 0\n# 0\n", ". .\n# .\n", "..\n#.\n",
		"0 0\r\n0 0\r\n", "0 0\n0 0\r\n", "0\t0\n0 0\n", "0,0\n0,0\n", "0 0 0 0", "0 0\v0 0\n", "0 0\n0 0\x00", "0 0\n0 0\n\x00", "\x000 0\n0 0\n", "0 0\n0 0\xff\n", "0x1 0\n0 0\n", "1_0 0\n0 0\n", "0_1 0\n0 0\n", "1e0 0\n0 0\n", "1.0 0\n0 0\n", "0b1 0\n0 0\n", "0o1 0\n0 0\n",
		"١ 0\n0 0\n", "１ 0\n0 0\n", "² 0\n0 0\n", "0 0\n0 ٣\n", "−1 0\n0 0\n", "0\u00a00\n0 0\n", "a 0\n0 0\n", "0 0\n0 z\n",
		strings.Repeat("0 0\n", 100000), strings.Repeat("0 ", 100000), strings.Repeat("\n", 1000000), strings.Repeat(" ", 1000000), strings.Repeat("9", 1000000), strings.Repeat("0", 100000) + " 0\n0 0\n", "0 0\n0 0\n" + strings.Repeat("0", 100000), "0 0\n0 0\n" + strings.Repeat("\n", 100000), "0 0\n0 " + strings.Repeat("0", 1000000) + "\n",
	}
	for b := range 256 {
		other := string([]byte{byte(b)})
		if b < '0' || b > '9' {
			list = append(list, other+" 0\n0 0\n", "0 0\n0 "+other+"\n", "0 "+other+"\n0 0\n")
		}
		if b != ' ' {
			list = append(list, "0"+other+"0\n0 0\n", "0 0\n0"+other+"0\n")
		}
		if b != '\n' {
			list = append(list, "0 0"+other+"0 0\n", "0 0\n0 0"+other)
		}
		list = append(list, "0 0\n0 0\n"+other, "0 0\n0 1"+other+"\n", "4"+other+" 0\n0 0\n")
		if b != '-' {
			list = append(list, other+"0 0\n0 0\n", "0 0\n0 "+other+"4\n")
		}
	}
	return list
}
