package tests

import (
	"iter"
	"math/rand"
	"strings"

	"loop.example/g01405/impl"
)

// letters are those of ways, in their order.
const letters = "NWES"

// mowing is the lawn of the document's example of chapter 2.
func mowing() impl.Lawn { return lawnOf("...", ".#.") }

// hasOpen reports whether a lawn has such a cell, and it is open.
func hasOpen(l impl.Lawn, at impl.Cell) bool {
	return at.X >= 0 && at.Y >= 0 && at.X < l.Wide && at.Y < l.High && isOpen(l, at)
}

// gone returns the cell to which a letter leads.
func gone(at impl.Cell, letter byte) impl.Cell {
	switch letter {
	case 'N':
		at.Y--
	case 'S':
		at.Y++
	case 'W':
		at.X--
	case 'E':
		at.X++
	}
	return at
}

// cellsAlong returns the cells of a way, and whether it is right.
func cellsAlong(l impl.Lawn, from impl.Cell, way string) ([]impl.Cell, bool) {
	list, right := []impl.Cell{from}, hasOpen(l, from)
	for i := 0; i < len(way) && right; i++ {
		from = gone(from, way[i])
		list, right = append(list, from), hasOpen(l, from)
	}
	return list, right
}

// turnsIn counts the turns of a way.
func turnsIn(way string) int64 {
	count := int64(0)
	for i := range len(way) {
		if i > 0 && way[i] != way[i-1] {
			count++
		}
	}
	return count
}

// letterOrder compares ways of the same length by the order of letters.
func letterOrder(a, b string) int {
	order := strings.NewReplacer("N", "0", "W", "1", "E", "2", "S", "3")
	return strings.Compare(order.Replace(a), order.Replace(b))
}

// everyWay goes through all ways with at most so many letters.
func everyWay(most int) iter.Seq[string] {
	return func(yield func(string) bool) {
		ways := []string{""}
		for len(ways) > 0 {
			way := ways[0]
			ways = ways[1:]
			if !yield(way) {
				return
			}
			for i := 0; i < 4 && len(way) < most; i++ {
				ways = append(ways, way+letters[i:i+1])
			}
		}
	}
}

// randomWay returns a right way with so many letters, or an empty one if none of the cells beside from is open.
func randomWay(random *rand.Rand, l impl.Lawn, from impl.Cell, long int) string {
	var way []byte
	for at := from; len(way) < long; {
		var right []byte
		for i := range 4 {
			if hasOpen(l, gone(at, letters[i])) {
				right = append(right, letters[i])
			}
		}
		if len(right) == 0 {
			return ""
		}
		letter := right[random.Intn(len(right))]
		way, at = append(way, letter), gone(at, letter)
	}
	return string(way)
}

// ride is a right way on a lawn.
type ride struct {
	lawn impl.Lawn
	from impl.Cell
	way  string
}

// rides goes through right ways of all lengths on lawns of any size, the same ones each time.
func rides() iter.Seq[ride] {
	return func(yield func(ride) bool) {
		random := rand.New(rand.NewSource(2))
		lawns := []impl.Lawn{mowing(), example(), lawnOf("."), lawnOf("="), lawnOf(".."), lawnOf(".", "="), fullLawn(10, 10, 0), fullLawn(10, 10, 3), fullLawn(3, 2, 0)}
		for l := range mixedLawns(60) {
			lawns = append(lawns, l)
		}
		for _, l := range lawns {
			for i, from := range cellsOf(l) {
				long := []int{0, 1, 2, 3, 5, 9, 20, 60, 199, 200}[(i+int(l.Wide))%10]
				if hasOpen(l, from) && !yield(ride{l, from, randomWay(random, l, from, long)}) {
					return
				}
			}
		}
	}
}

// smallOpenLawns goes through lawns with at most MaxMown cells of grass and MaxOpen open ones, the same ones each time.
func smallOpenLawns(count int) iter.Seq[impl.Lawn] {
	return func(yield func(impl.Lawn) bool) {
		random := rand.New(rand.NewSource(3))
		for n := range count {
			l := fullLawn(int8(2+random.Intn(4)), int8(1+random.Intn(5)), impl.LaTree)
			cells := cellsOf(l)
			at, grass := cells[random.Intn(len(cells))], 0
			for range 4 + random.Intn(24) {
				if open := openIn(l); len(open) < impl.MaxOpen && kindOf(l, at) == impl.LaTree {
					l.Cells[at.Y][at.X] = impl.LaPath
					if grass < impl.MaxMown && random.Intn(4) > 0 {
						l.Cells[at.Y][at.X] = impl.LaGrass
						grass++
					}
				}
				next := gone(at, letters[random.Intn(4)])
				if next.X >= 0 && next.Y >= 0 && next.X < l.Wide && next.Y < l.High {
					at = next
				}
			}
			if spare := cells[random.Intn(len(cells))]; n%10 == 0 && grass < impl.MaxMown && len(openIn(l)) < impl.MaxOpen {
				l.Cells[spare.Y][spare.X] = impl.LaGrass
			}
			if !yield(l) {
				return
			}
		}
	}
}

// openIn lists all open cells.
func openIn(l impl.Lawn) []impl.Cell {
	var list []impl.Cell
	for _, at := range cellsOf(l) {
		if isOpen(l, at) {
			list = append(list, at)
		}
	}
	return list
}
