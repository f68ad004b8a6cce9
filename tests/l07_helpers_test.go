package tests

import (
	"fmt"
	"iter"
	"math/bits"
	"math/rand"
	"slices"
	"strings"

	"loop.example/g01405/impl"
)

// patch is a lawn with its weeds.
type patch struct {
	l impl.Lawn
	w impl.Weeds
}

// patchOf makes a patch of rows: "w" is grass with weeds, "W" a bed with weeds, and all else is a cell of a kind without weeds.
func patchOf(rows ...string) patch {
	var p patch
	var kinds []string
	for y, row := range rows {
		for x := range len(row) {
			if row[x] == 'w' || row[x] == 'W' {
				p.w[y] |= 1 << x
			}
		}
		kinds = append(kinds, strings.NewReplacer("w", ".", "W", "#").Replace(row))
	}
	p.l = lawnOf(kinds...)
	return p
}

// String returns the rows of which a patch is made.
func (p patch) String() string {
	text := ""
	for _, at := range cellsOf(p.l) {
		letters := ".#T="
		if p.has(at) {
			letters = "wW!!"
		}
		text += letters[kindOf(p.l, at):][:1]
		if at.X == p.l.Wide-1 {
			text += "/"
		}
	}
	return text
}

// has tells whether a cell has weeds.
func (p patch) has(at impl.Cell) bool { return int(p.w[at.Y])/(1<<at.X)%2 == 1 }

// with returns a patch with weeds in one cell more.
func (p patch) with(at impl.Cell) patch {
	p.w[at.Y] |= 1 << at.X
	return p
}

// without returns a patch without the weeds of one cell.
func (p patch) without(at impl.Cell) patch {
	p.w[at.Y] &^= 1 << at.X
	return p
}

// weedy lists all cells with weeds.
func (p patch) weedy() []impl.Cell {
	return slices.DeleteFunc(cellsOf(p.l), func(at impl.Cell) bool { return !p.has(at) })
}

// count tells how many cells have weeds.
func (p patch) count() int64 { return int64(len(p.weedy())) }

// mayGrow lists all cells in which weeds may grow.
func mayGrow(l impl.Lawn) []impl.Cell {
	return slices.DeleteFunc(cellsOf(l), func(at impl.Cell) bool {
		return kindOf(l, at) != impl.LaGrass && kindOf(l, at) != impl.LaBed
	})
}

// middle is the patch of the document's example of chapter 7.
func middle() patch { return patchOf("...", ".w.", "...") }

// overgrown returns a patch with weeds wherever they may grow.
func overgrown(l impl.Lawn) patch {
	p := patch{l: l}
	for _, at := range mayGrow(l) {
		p = p.with(at)
	}
	return p
}

// longTrail is a patch in which weeds with the need 1 go on to spread for 62 days, longer than MaxDays.
func longTrail() patch {
	return patchOf("w.T...T...", "T.T.T...T.", "..T..T.T..", ".TTT..T..T", "....T..T..", "TTT..T..T.", "...T.TT.T.", ".T...T..T.", "..TTT..T..", "T.....T..T")
}

// longPairs is a patch in which weeds with the need 2 go on to spread for 71 days.
func longPairs() patch {
	return patchOf("........ww", "w.......TT", "...w..w..w", ".wT......w", ".......T..", ".....w....", "wT...T...w", ".........T", "...w...w.w", "ww...w...w")
}

// everyPatch goes through all patches of a size, with these letters.
func everyPatch(wide, high int, letters string) iter.Seq[patch] {
	return func(yield func(patch) bool) {
		all := 1
		for range wide * high {
			all *= len(letters)
		}
		for number := range all {
			rows := make([]string, high)
			for place := range wide * high {
				rows[place/wide] += string(letters[number%len(letters)])
				number /= len(letters)
			}
			if !yield(patchOf(rows...)) {
				return
			}
		}
	}
}

// randomPatch returns a patch in which few cells or many have weeds.
func randomPatch(random *rand.Rand, l impl.Lawn) patch {
	p := patch{l: l}
	share := anyOf(random, []int{0, 5, 10, 20, 35, 50, 80, 100})
	for _, at := range mayGrow(l) {
		if random.Intn(100) < share {
			p = p.with(at)
		}
	}
	return p
}

// weedyLawns goes through lawns of any size with many beds, the same ones each time.
func weedyLawns(count int) iter.Seq[impl.Lawn] {
	return func(yield func(impl.Lawn) bool) {
		random := rand.New(rand.NewSource(51))
		mixes := []string{".", "....#", "..##", "#", "....#T=", "..#T", "##=", ".........T"}
		for n := range count {
			l := impl.Lawn{Wide: int8(1 + random.Intn(10)), High: int8(1 + random.Intn(10))}
			if n%10 == 0 {
				l.Wide, l.High = 10, 10
			}
			mix := mixes[n%len(mixes)]
			for _, at := range cellsOf(l) {
				l = withCell(l, at, uint8(strings.IndexByte(".#T=", anyOf(random, []byte(mix)))))
			}
			if !yield(l) {
				return
			}
		}
	}
}

// patches goes through patches of all sizes: all small ones, those with one row or column, without weeds and with weeds everywhere, and some of any size, the same ones each time.
func patches(count int) iter.Seq[patch] {
	return func(yield func(patch) bool) {
		list := []patch{middle(), longTrail(), longPairs(), patchOf("wW#", "T=.", "W.w"), patchOf("w.w", ".T.", "w.w"), patchOf("w#", "=w")}
		for _, size := range [][2]int{{1, 1}, {3, 1}, {1, 3}, {2, 2}} {
			list = slices.AppendSeq(list, everyPatch(size[0], size[1], ".w#WT"))
		}
		for kind := range uint8(4) {
			for _, size := range [][2]int8{{1, 1}, {10, 10}, {10, 1}, {1, 10}, {9, 10}, {10, 9}, {4, 3}} {
				l := fullLawn(size[0], size[1], kind)
				list = append(list, patch{l: l}, overgrown(l))
				if kind <= impl.LaBed {
					list = append(list, patch{l: l}.with(xy(0, 0)), patch{l: l}.with(xy(l.Wide-1, l.High-1)), overgrown(l).without(xy(l.Wide/2, l.High/2)))
				}
			}
		}
		random := rand.New(rand.NewSource(52))
		for l := range weedyLawns(count) {
			list = append(list, randomPatch(random, l))
		}
		for _, p := range list {
			if !yield(p) {
				return
			}
		}
	}
}

// isSoundPatch tells whether weeds are valid for a lawn that is valid.
func isSoundPatch(p patch) bool {
	left := p.w
	for _, at := range mayGrow(p.l) {
		left[at.Y] &^= 1 << at.X
	}
	return left == impl.Weeds{}
}

// spreadBy tells the patch a day later: each cell with weeds is told to all cells beside it.
func spreadBy(p patch, need int64) patch {
	var told [12][12]int64
	for _, at := range p.weedy() {
		for _, letter := range []byte(letters) {
			next := gone(at, letter)
			told[next.Y+1][next.X+1]++
		}
	}
	later := p
	for _, at := range mayGrow(p.l) {
		if told[at.Y+1][at.X+1] >= need {
			later = later.with(at)
		}
	}
	return later
}

// daysBy tells the patch several days later.
func daysBy(p patch, need, days int64) patch {
	for ; days > 0; days-- {
		p = spreadBy(p, need)
	}
	return p
}

// clearBy tells the patch of which a row is cut, or hoed, and how many cells are freed.
func clearBy(p patch, row int64, hoed bool) (patch, int64) {
	freed := int64(0)
	for _, at := range p.weedy() {
		if int64(at.Y) == row && (hoed || hasGrass(p.l, at)) {
			p = p.without(at)
			freed++
		}
	}
	return p, freed
}

// roundsBy tells the patch behind rounds, how many cells are freed, and the code.
func roundsBy(p patch, need int64, rounds []impl.Round) (patch, int64, int64) {
	if slices.ContainsFunc(rounds, func(r impl.Round) bool { return r.Row < 0 || r.Row >= p.l.High }) {
		return patch{}, 0, impl.ErrRange
	}
	if len(rounds) > 60 {
		return patch{}, 0, impl.ErrLimit
	}
	all := int64(0)
	for _, r := range rounds {
		after, freed := clearBy(spreadBy(p, need), int64(r.Row), r.Hoed)
		p, all = after, all+freed
	}
	return p, all, impl.OK
}

// spotsBy tells all spots: at first each cell has a number of its own, and then each one takes the least number beside it, again and again.
func spotsBy(p patch) []impl.Weeds {
	cells := p.weedy()
	numbers := map[impl.Cell]int{}
	for i, at := range cells {
		numbers[at] = i
	}
	for again := true; again; {
		again = false
		for _, at := range cells {
			for _, letter := range []byte(letters) {
				if other, is := numbers[gone(at, letter)]; is && other < numbers[at] {
					numbers[at], again = other, true
				}
			}
		}
	}
	var spots []impl.Weeds
	for i := range cells {
		spot := patch{l: p.l}
		for _, at := range cells {
			if numbers[at] == i {
				spot = spot.with(at)
			}
		}
		if spot.w != (impl.Weeds{}) {
			spots = append(spots, spot.w)
		}
	}
	return spots
}

// everyRows goes through all lists of so many rows, as lists are ordered.
func everyRows(high int8, count int64) iter.Seq[[]int64] {
	return func(yield func([]int64) bool) {
		all := int64(1)
		for range count {
			all *= int64(high)
		}
		for number := range all {
			rows := make([]int64, count)
			for i, rest := count-1, number; i >= 0; i-- {
				rows[i] = rest % int64(high)
				rest /= int64(high)
			}
			if !yield(rows) {
				return
			}
		}
	}
}

// cutsBy tells the patch of which a row is cut each day, behind a day of spreading.
func cutsBy(p patch, need int64, rows []int64) patch {
	for _, row := range rows {
		p, _ = clearBy(spreadBy(p, need), row, false)
	}
	return p
}

// outcome is what a list of rows leaves.
type outcome struct {
	rows []int64
	p    patch
}

// outcomesBy tells all that can be left behind so many cuts, each with the first list that leaves it, ordered by these lists.
func outcomesBy(p patch, need, cuts int64) []outcome {
	now := []outcome{{p: p}}
	for range cuts {
		known := map[impl.Weeds]bool{}
		var next []outcome
		for _, one := range now {
			grown := spreadBy(one.p, need)
			for row := range int64(p.l.High) {
				left, _ := clearBy(grown, row, false)
				if !known[left.w] {
					known[left.w] = true
					next = append(next, outcome{append(slices.Clone(one.rows), row), left})
				}
			}
		}
		now = next
	}
	return now
}

// fewestWeedsBy tells the first rows that leave the fewest weeds, and how many these are.
func fewestWeedsBy(p patch, need, cuts int64) ([]int64, int64) {
	list := outcomesBy(p, need, cuts)
	first := list[0]
	for _, one := range list {
		if one.p.count() < first.p.count() {
			first = one
		}
	}
	return first.rows, first.p.count()
}

// fewestCutsBy tells the shortest rows, and of these the first ones, that leave at most bound weeds, and the code.
func fewestCutsBy(p patch, need, bound int64) ([]int64, int64) {
	for cuts := range int64(5) {
		for _, one := range outcomesBy(p, need, cuts) {
			if one.p.count() <= bound {
				return one.rows, impl.OK
			}
		}
	}
	return nil, impl.ErrNotFound
}

// bestRowBy tells the first row that, cut today, leaves the fewest weeds tomorrow, and how many these are.
func bestRowBy(p patch, need int64) (int64, int64) {
	best, fewest := int64(-1), int64(101)
	for row := range int64(p.l.High) {
		cut, _ := clearBy(p, row, false)
		if left := spreadBy(cut, need).count(); left < fewest {
			best, fewest = row, left
		}
	}
	return best, fewest
}

// aftersBy tells all weeds that may be from a patch a day before: each row by itself without some of its weeds.
func aftersBy(p patch, need int64) map[impl.Weeds]bool {
	grown := spreadBy(p, need)
	afters := map[impl.Weeds]bool{}
	for y := range p.l.High {
		for row := range uint16(1 << p.l.Wide) {
			after := grown.w
			after[y] &= row
			afters[after] = true
		}
	}
	return afters
}

// mirroredPatch tells the patch with west and east exchanged.
func mirroredPatch(p patch) patch {
	mirrored := patch{l: impl.Lawn{Wide: p.l.Wide, High: p.l.High}}
	for y := range p.l.High {
		mirrored.w[y] = bits.Reverse16(p.w[y]) >> (16 - p.l.Wide)
		for x := range p.l.Wide {
			mirrored.l.Cells[y][x] = p.l.Cells[y][p.l.Wide-1-x]
		}
	}
	return mirrored
}

// weedsTextBy tells the text of weeds.
func weedsTextBy(p patch) string {
	text := ""
	for y := range p.l.High {
		row := fmt.Sprintf("%016b", bits.Reverse16(p.w[y]))[:p.l.Wide]
		text += strings.NewReplacer("0", ".", "1", "w").Replace(row) + "\n"
	}
	return text
}

// roundsOf makes rounds of numbers: those of 10 and more hoe the row that is 10 less.
func roundsOf(numbers ...int8) []impl.Round {
	var rounds []impl.Round
	for _, n := range numbers {
		rounds = append(rounds, impl.Round{Row: n % 10, Hoed: n >= 10})
	}
	return rounds
}

// roundsTextBy tells the text of rounds that have one.
func roundsTextBy(rounds []impl.Round) string {
	text := ""
	for _, r := range rounds {
		text += fmt.Sprintf(" %c%d", map[bool]rune{false: 'c', true: 'h'}[r.Hoed], r.Row)
	}
	return strings.TrimPrefix(text, " ")
}

// badWeeds returns weeds that are not valid for the lawn of a patch, which is valid itself.
func badWeeds(p patch) []impl.Weeds {
	var list []impl.Weeds
	may := mayGrow(p.l)
	for y := range int8(10) {
		for x := range 16 {
			if !slices.Contains(may, xy(int8(x), y)) {
				bad := p.w
				bad[y] |= 1 << x
				list = append(list, bad)
			}
		}
	}
	return list
}

// badPatches returns patches that are not valid, by their lawns or by their weeds.
func badPatches() []patch {
	var list []patch
	for _, l := range badLawns() {
		list = append(list, patch{l: l}, patch{l, middle().w}, patch{l, impl.Weeds{1}}, patch{l, overgrown(fullLawn(10, 10, 0)).w})
	}
	for _, p := range []patch{middle(), patchOf("."), patchOf("T"), patchOf("wT", "=W"), overgrown(fullLawn(10, 9, 1)), {l: fullLawn(9, 10, 0)}, {l: fullLawn(10, 10, 0)}, {l: fullLawn(10, 10, 3)}} {
		for _, w := range badWeeds(p) {
			list = append(list, patch{p.l, w})
		}
	}
	return list
}

// noNumbers returns numbers that are less than 0 or greater than a limit.
func noNumbers(most int64) []int64 {
	return []int64{-1, -2, -most - 1, -most - 2, most + 1, most + 2, most + 256, most + 1<<16, most + 1<<32, -1 << 8, -1 << 32, -1 << 63, -1<<63 + 1, 1<<63 - 1, 1<<63 - 2}
}

// hedge is the lawn of whose weeds noWeedsTexts has no text.
func hedge() impl.Lawn { return lawnOf("..", "T#") }

// noWeedsTexts returns texts that are those of no weeds of the hedge.
func noWeedsTexts() []string {
	list := []string{
		"", "\n", "\n\n", " ", ".", "..", "..\n", "..\n..", "....\n", "....", "....\n\n", ".....", "......", "..\n...", ".\n.\n.\n.\n", "x",
		// A letter too many or too few, a row too many or too few.
		"...\n..\n", "..\n...\n", ".\n..\n", "..\n.\n", "...\n.\n", ".\n...\n", "...\n...\n", ".\n.\n", "\n..\n", "..\n\n", "..\n..\n..\n", "..\n..\n\n", "\n..\n..\n", "..\n\n..\n", "..\n..\n.", "..\n..\n.\n", "w.\n.w\n..\n", "ww\n.w", "ww\n", "w", "www\n.w\n", "ww\n.ww\n",
		// Weeds in a tree.
		"..\nw.\n", "..\nww\n", "ww\nww\n", "ww\nw.\n",
		// Blanks, other letters and other newlines.
		" ..\n..\n", ".. \n..\n", "..\n ..\n", "..\n.. \n", "..\n..\n ", ". .\n. .\n", " .\n..\n", ". \n..\n", "..\n. \n", "  \n  \n", "W.\n..\n", "..\n.W\n", "#.\n..\n", "..\nT#\n", "..\n.#\n", "..\n=.\n", "o.\n..\n", "1.\n..\n", "0.\n..\n", "10\n01\n", "..\r\n..\r\n", "..\n..\r\n", "..\r..\r", "..\v..\v", "..\n..\x00", "..\n..\n\x00", "\x00..\n..\n", "..\t..\n", "..,..\n", "..\n..\xff", "ẇ.\n..\n", "·.\n..\n", "ｗ.\n..\n", "w.\n.‐\n", "\ufeff..\n..\n",
		strings.Repeat("..\n", 100000), strings.Repeat("..", 100000), strings.Repeat("w", 1000000), strings.Repeat(".", 1000000), strings.Repeat("\n", 1000000), "..\n..\n" + strings.Repeat(".", 100000), "..\n..\n" + strings.Repeat("\n", 100000), strings.Repeat(" ", 100000) + "..\n..\n",
	}
	for b := range 256 {
		other := string([]byte{byte(b)})
		if b != '.' && b != 'w' {
			list = append(list, other+".\n..\n", "."+other+"\n..\n", "..\n"+other+".\n", "..\n."+other+"\n", "w"+other+"\n.w\n")
		}
		if b != '\n' {
			list = append(list, ".."+other+"..\n", "..\n.."+other, "ww"+other+".w\n", "ww\n.w"+other)
		}
		list = append(list, other+"..\n..\n", "..\n.."+other+"\n", "..\n..\n"+other, "..\n"+other+"..\n", "."+other+".\n..\n")
	}
	return list
}

// noRoundsTexts returns texts that are those of no rounds.
func noRoundsTexts() []string {
	list := []string{
		" ", "  ", "\n", "x", "c", "h", "0", "1", "9", "c c", "h h", "0 0", "cc", "hh", "ch", "hc", "x1", "c1\n", "\nc1", "c1\nh1", "C1", "H1", "C1 h0", "c1 H0",
		// Blanks twice, at the beginning or at the end, or missing.
		" c1", "c1 ", "  c1", "c1  ", "c1  h0", "c1   h0", " c1 h0", "c1 h0 ", "c1h0", "c1c1", "h0h0", "c 1", "h 0", "c1 h 0", "c1 h", "c h0", "c1 0", "1 h0", "c1\th0", "c1,h0", "c1, h0", "c1;h0", "\tc1", "c1\t", "c1\u00a0h0", "c1 \n h0",
		// Leading zeros, signs, and rows above 9.
		"c01", "c00", "h00", "h09", "c001", "c-1", "h-0", "c+1", "h+0", "c--1", "c+-1", "c10", "h10", "c11", "h99", "c100", "c127", "c128", "c-128", "c256", "c257", "h255", "c4294967296", "c18446744073709551616", "c18446744073709551617", "h-9223372036854775808", "c1 h10", "c10 h1", "c1 h01", "c01 h1",
		// Letters twice, behind, or others.
		"cc1", "hh1", "ch1", "hc1", "c1c", "h1h", "c1h", "1c", "0h", "cc1 h0", "c1 hh0", "c1 ch0", "k1", "m1", "w1", "c1 w1", "cx", "hx", "cut1", "hoe1", "c1x", "c1.", "c1.0", "c0x1", "c1e0", "c1_0", "c_1", "c0b1", "cw", "c١", "c１", "h²", "ｃ1", "ｈ1", "çh1", "c1\x00", "\x00c1", "c\x001", "c1 \x00", "\xffc1", "c1\xff",
		strings.TrimSuffix(strings.Repeat("c1 ", 61), " "), strings.TrimSuffix(strings.Repeat("h9 ", 61), " "), strings.TrimSuffix(strings.Repeat("c0 ", 62), " "), strings.TrimSuffix(strings.Repeat("h0 ", 300000), " "),
		strings.TrimSuffix(strings.Repeat("c1 ", 60), " ") + " ", strings.Repeat("c1 ", 60) + "x", strings.Repeat("c1 ", 59) + " c1", strings.Repeat("c1 ", 59) + "c10", strings.Repeat("c1 ", 59) + "c1c1", strings.Repeat("c1", 60), strings.Repeat("c1", 30),
		strings.Repeat(" ", 1000000), strings.Repeat("c", 1000000), strings.Repeat("0", 1000000), "c" + strings.Repeat("0", 1000000), "h" + strings.Repeat("0", 100000) + "1", "c" + strings.Repeat("9", 100000), strings.Repeat("c", 100000) + "1", strings.Repeat("c1", 500000),
	}
	for b := range 256 {
		other := string([]byte{byte(b)})
		if b != 'c' && b != 'h' {
			list = append(list, other+"1", "c1 "+other+"0", other+"1 h0")
		}
		if b < '0' || b > '9' {
			list = append(list, "c"+other, "h"+other, "c1 h"+other, "h"+other+" c1")
		}
		if b != ' ' {
			list = append(list, "c1"+other+"h0")
		}
		list = append(list, other, "c1"+other, "c1 h0"+other, "c"+other+"1", other+"c1", "c1 "+other+"h0", "c1 h"+other+"0")
	}
	return list
}
