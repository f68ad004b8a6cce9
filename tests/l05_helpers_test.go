package tests

import (
	"iter"
	"math/rand"
	"slices"
	"strings"

	"loop.example/g01405/impl"
)

// garden is the lawn of the document's example of chapter 5.
func garden() impl.Lawn { return lawnOf("...", ".#.", "...") }

// hasGrass reports whether a lawn has such a cell, and it is grass.
func hasGrass(l impl.Lawn, at impl.Cell) bool {
	return at.X >= 0 && at.Y >= 0 && at.X < l.Wide && at.Y < l.High && kindOf(l, at) == impl.LaGrass
}

// withCell returns a lawn with another kind of one cell.
func withCell(l impl.Lawn, at impl.Cell, kind uint8) impl.Lawn {
	l.Cells[at.Y][at.X] = kind
	return l
}

// ofKind lists all cells of a kind.
func ofKind(l impl.Lawn, kind int64) []impl.Cell {
	return slices.DeleteFunc(cellsOf(l), func(at impl.Cell) bool { return kindOf(l, at) != kind })
}

// sidesBy tells the sides of a cell: those that no cell of the lawn lies beside have nothing there.
func sidesBy(l impl.Lawn, at impl.Cell) impl.Sides {
	s := impl.Sides{0, 0, 0, 0, 4}
	for _, other := range cellsOf(l) {
		if beside(at, other) {
			s[kindOf(l, other)]++
			s[4]--
		}
	}
	return s
}

// sumBy tells the sides of all cells of grass.
func sumBy(l impl.Lawn) impl.Sides {
	var s impl.Sides
	for _, at := range grassOf(l) {
		for beside, count := range sidesBy(l, at) {
			s[beside] += count
		}
	}
	return s
}

// straightsBy tells in how many places cells of grass begin a straight piece of the edge, and how many of their sides are in the edge:
// each straight piece lies at one side (by its letter) of cells that follow each other in a row or in a column.
func straightsBy(l impl.Lawn) (begins, long int64) {
	for _, letter := range []byte(letters) {
		before := byte('W')
		if letter == 'W' || letter == 'E' {
			before = 'N'
		}
		edge := func(at impl.Cell) bool { return hasGrass(l, at) && !hasGrass(l, gone(at, letter)) }
		for _, at := range cellsOf(l) {
			if edge(at) {
				long++
			}
			if edge(at) && !edge(gone(at, before)) {
				begins++
			}
		}
	}
	return begins, long
}

// ringsBy tells how many rings the edge has, by going along it, with the grass at the right hand, until it comes to where it began.
func ringsBy(l impl.Lawn) int64 {
	clockwise := "NESW"
	type side struct {
		at  impl.Cell
		way int
	}
	known := map[side]bool{}
	rings := int64(0)
	for _, at := range grassOf(l) {
		for way := range 4 {
			if hasGrass(l, gone(at, clockwise[way])) || known[side{at, way}] {
				continue
			}
			rings++
			for now := (side{at, way}); !known[now]; {
				known[now] = true
				right := (now.way + 1) % 4
				ahead := gone(now.at, clockwise[right])
				switch {
				case !hasGrass(l, ahead):
					now.way = right
				case hasGrass(l, gone(ahead, clockwise[now.way])):
					now = side{gone(ahead, clockwise[now.way]), (now.way + 3) % 4}
				default:
					now.at = ahead
				}
			}
		}
	}
	return rings
}

// linesBy lists the line of each side that is trimmed, from the kind 1 to 4.
func linesBy(l impl.Lawn, w impl.Wear) []int64 {
	var lines []int64
	for kind := 1; kind < 5; kind++ {
		for _, at := range grassOf(l) {
			for range sidesBy(l, at)[kind] {
				lines = append(lines, int64(w[kind]))
			}
		}
	}
	return lines
}

// takeOf tells how many of a list go together, from the first one on, into so much.
func takeOf(list []int64, holds int64) int {
	count := 0
	for count < len(list) && sumOf(list[:count+1]) <= holds {
		count++
	}
	return count
}

// spoolsBy tells how many spools are used, and whether these are enough: each one takes as many sides as it can.
func spoolsBy(lines []int64, holds int64) (int64, bool) {
	lines = slices.DeleteFunc(slices.Clone(lines), func(line int64) bool { return line == 0 })
	spools := int64(0)
	for len(lines) > 0 {
		count := takeOf(lines, holds)
		if count == 0 {
			return 0, false
		}
		lines = lines[count:]
		spools++
	}
	return spools, true
}

// changeBy tells the first one of some cells that makes the edge shortest, or longest, if it becomes another kind, and how long it is then.
func changeBy(l impl.Lawn, from int64, to uint8, longest bool) (impl.Cell, int64, int64) {
	var best impl.Cell
	long, got := int64(-1), int64(impl.ErrNotFound)
	for _, at := range reversed(ofKind(l, from)) {
		_, edge := straightsBy(withCell(l, at, to))
		if long < 0 || edge == long || (edge > long) == longest {
			best, long, got = at, edge, impl.OK
		}
	}
	return best, max(0, long), got
}

// roundBy tells the lawn that is rounded off: beds become grass from the last one on, in any number of rounds.
func roundBy(l impl.Lawn) (impl.Lawn, int64) {
	count := int64(0)
	for again := true; again; {
		again = false
		for _, at := range reversed(ofKind(l, impl.LaBed)) {
			if sidesBy(l, at)[impl.LaGrass] > 2 {
				l, again = withCell(l, at, impl.LaGrass), true
				count++
			}
		}
	}
	return l, count
}

// depthsBy tells the depth of all cells of grass: less is told of some, again and again, until nothing is.
func depthsBy(l impl.Lawn) map[impl.Cell]int64 {
	depths := map[impl.Cell]int64{}
	for _, at := range grassOf(l) {
		depths[at] = farthest
		if sidesBy(l, at)[impl.LaGrass] < 4 {
			depths[at] = 0
		}
	}
	for again := true; again; {
		again = false
		for at := range depths {
			for _, letter := range []byte(letters) {
				if next := gone(at, letter); hasGrass(l, next) && depths[next]+1 < depths[at] {
					depths[at], again = depths[next]+1, true
				}
			}
		}
	}
	return depths
}

// edgeLawns goes through lawns of all sizes: small ones, those with one row or column, those of one kind, and some of any size, the same ones each time.
func edgeLawns(count int) iter.Seq[impl.Lawn] {
	return func(yield func(impl.Lawn) bool) {
		lawns := []impl.Lawn{garden(), example(), mowing(), snake(), target(), islands()}
		for _, size := range [][2]int8{{1, 1}, {3, 1}, {1, 3}, {2, 2}} {
			for l := range everyLawn(size[0], size[1]) {
				lawns = append(lawns, l)
			}
		}
		for kind := range uint8(4) {
			lawns = append(lawns, fullLawn(10, 10, kind), fullLawn(10, 1, kind), fullLawn(1, 10, kind), fullLawn(7, 4, kind))
		}
		for l := range mixedLawns(count) {
			lawns = append(lawns, l)
		}
		random := rand.New(rand.NewSource(21))
		for range count {
			l := impl.Lawn{Wide: int8(3 + random.Intn(8)), High: int8(3 + random.Intn(8))}
			for _, at := range someOf(random, cellsOf(l), random.Intn(30)) {
				l = withCell(l, at, "\x01\x01\x01\x02\x03"[random.Intn(5)])
			}
			lawns = append(lawns, l)
		}
		for _, l := range lawns {
			if !yield(l) {
				return
			}
		}
	}
}

// target is a lawn with grass around a hole with grass in it, which has a hole.
func target() impl.Lawn {
	return lawnOf(".......", ".#####.", ".#...#.", ".#.T.#.", ".#...#.", ".#####.", ".......")
}

// islands is a lawn with pieces that touch each other by corners alone.
func islands() impl.Lawn { return lawnOf(".#.#.", "#.#.#", ".#.#.", "#.#.#") }

// stripsBy tells the strips of pieces that are cut in their order: each strip takes as many as it can.
func stripsBy(list []int64, strip int64) ([]int64, int64) {
	var strips []int64
	count := int64(0)
	for len(list) > 0 {
		take := takeOf(list, strip)
		strips = append(strips, slices.Repeat([]int64{count}, take)...)
		list = list[take:]
		count++
	}
	return strips, count
}

// fits reports whether pieces can be cut from these strips.
func fits(list, strips []int64, strip int64) bool {
	cut := map[int64]int64{}
	for i, piece := range list {
		cut[strips[i]] += piece
		if cut[strips[i]] > strip {
			return false
		}
	}
	return true
}

// everyStrips goes through all lists of strips, told by first pieces, from the first one to the last one.
func everyStrips(count int) iter.Seq[[]int64] {
	return func(yield func([]int64) bool) {
		more := true
		var add func(strips []int64, next int64)
		add = func(strips []int64, next int64) {
			if len(strips) == count {
				more = more && yield(slices.Clone(strips))
				return
			}
			for number := int64(0); number <= next && more; number++ {
				add(append(strips, number), max(next, number+1))
			}
		}
		add(nil, 0)
	}
}

// fewestStripsBy tells the first one of some lists with the fewest strips, and how many these are.
func fewestStripsBy(list []int64, strip int64, all iter.Seq[[]int64]) ([]int64, int64) {
	var best []int64
	fewest := int64(farthest)
	for strips := range all {
		if n := different(strips); n < fewest && fits(list, strips, strip) {
			best, fewest = strips, n
		}
	}
	return best, fewest
}

// leastStrips tells how few strips are enough, by all sets of pieces: each one goes on from the best way to cut all but one of it.
func leastStrips(list []int64, strip int64) int64 {
	type state struct{ strips, used int64 }
	states := []state{{0, strip}}
	for set := 1; set < 1<<len(list); set++ {
		best := state{farthest, 0}
		for i, piece := range list {
			if set>>i&1 == 0 {
				continue
			}
			next := states[set&^(1<<i)]
			next.used += piece
			if next.used > strip {
				next = state{next.strips + 1, piece}
			}
			if next.strips < best.strips || next.strips == best.strips && next.used < best.used {
				best = next
			}
		}
		states = append(states, best)
	}
	return states[len(states)-1].strips
}

// randomPieces returns pieces that a strip is long enough for, and this.
func randomPieces(random *rand.Rand, count int) ([]int64, int64) {
	strip := anyOf(random, []int64{1, 2, 3, 5, 10, 12, 100, impl.MaxLine})
	var list []int64
	for range count {
		long := 1 + random.Int63n(strip)
		if random.Intn(2) == 0 {
			long = min(strip, 1+random.Int63n(2+strip/2))
		}
		list = append(list, long)
	}
	return list, strip
}

// badWears returns wear that is not valid.
func badWears() []impl.Wear {
	list := []impl.Wear{{1}, {100}, {-1}, {-128}, {127}, {1, 1, 1, 1, 1}, {-1, -1, -1, -1, -1}, {101, 101, 101, 101, 101}}
	for beside := 1; beside < 5; beside++ {
		for _, line := range []int8{-1, -100, -128, 101, 127} {
			w := impl.Wear{0, 50, 50, 50, 50}
			w[beside] = line
			list = append(list, w)
			var alone impl.Wear
			alone[beside] = line
			list = append(list, alone)
		}
	}
	return list
}

// noLines returns numbers that are no length of a spool, of a strip or of a piece.
func noLines() []int64 {
	return []int64{0, -1, -5, -5000, 5001, 10000, 1 << 16, 1 << 32, 1<<32 + 5, -1 << 63, 1<<63 - 1}
}

// noSidesTexts returns texts that are those of no sides.
func noSidesTexts() []string {
	list := []string{
		"", " ", "     ", "    ", "x", "1", "1 2", "1 2 3", "1 2 3 4", "1 2 3 4 5 6", "1 2 3 4 5 6 7", "12345", "0 0 0 0", "0 0 0 0 0 0",
		"401 0 0 0 0", "0 401 0 0 0", "0 0 401 0 0", "0 0 0 401 0", "0 0 0 0 401", "1000 0 0 0 0", "0 0 0 0 4000", "0 0 99 0 999",
		"9223372036854775807 0 0 0 0", "9223372036854775808 0 0 0 0", "18446744073709551616 0 0 0 0", "18446744073709551617 0 0 0 0", "4294967296 0 0 0 0", "0 0 0 0 4294967297", "256 0 0 0 512",
		"01 2 3 4 5", "1 02 3 4 5", "1 2 3 4 05", "00 0 0 0 0", "0 0 0 0 00", "0400 0 0 0 0", "0 0 0 000 0",
		"+1 2 3 4 5", "1 +2 3 4 5", "1 2 3 4 +5", "-1 2 3 4 5", "1 2 -3 4 5", "1 2 3 4 -5", "-0 0 0 0 0", "0 0 0 0 -0", "+0 0 0 0 0", "- 0 0 0 0", "0 0 0 0 +",
		" 1 2 3 4 5", "1 2 3 4 5 ", " 1 2 3 4 5 ", "1  2 3 4 5", "1 2 3 4  5", "1 2  3 4", "1 2 3  4 5 ", " 1 2 3 4", "1 2 3 4 ", "  1 2 3 4", "1   2 3 4 5",
		"1\t2 3 4 5", "1 2 3 4 5\n", "\n1 2 3 4 5", "1 2 3 4\n5", "1 2 3 4 5\r\n", "1,2,3,4,5", "1, 2, 3, 4, 5", "1 2 3 4,5", "[1 2 3 4 5]", "1 2 3 4 5.", "1 2 3 4 5.0", "1 2 3 4 5e0",
		"a 2 3 4 5", "1 2 3 4 x", "0x1 2 3 4 5", "1 2 3 4 0b1", "1_0 2 3 4 5", "1 2 3 4 1e1", "1 2 3 4 ٥", "１ 2 3 4 5", "1 2 3 4 ²", "1\u00a02 3 4 5", "\x001 2 3 4 5", "1 2 3 4 5\x00", "1 2 3 4 \xff",
		strings.Repeat("0 ", 5), strings.Repeat("0 ", 100000), strings.Repeat(" ", 1000000), strings.Repeat("9", 100000) + " 0 0 0 0", "0 0 0 0 " + strings.Repeat("0", 1000000), strings.Repeat("1 ", 499999) + "1",
	}
	for b := range 256 {
		other := string([]byte{byte(b)})
		if b < '0' || b > '9' {
			list = append(list, other+" 0 0 0 0", "0 0 "+other+" 0 0", "0 0 0 0 "+other, "0 0 0 0 4"+other, "0 0 0 0 "+other+"4")
		}
		if b != ' ' {
			list = append(list, "0"+other+"0 0 0 0", "0 0 0 0"+other+"0")
		}
	}
	return list
}
