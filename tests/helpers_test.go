package tests

import (
	"iter"
	"math"
	"math/rand"
	"reflect"
	"strings"
	"testing"

	"loop.example/g01405/impl"
)

// same fails the test if got and want are not deeply equal; nil and empty slices are.
func same(t *testing.T, name string, got, want any) {
	t.Helper()
	if isEmptySlice(got) && isEmptySlice(want) {
		return
	}
	if !reflect.DeepEqual(got, want) {
		t.Errorf("%s: got %v, want %v", name, got, want)
	}
}

func isEmptySlice(a any) bool {
	v := reflect.ValueOf(a)
	return v.Kind() == reflect.Slice && v.Len() == 0
}

// code fails the test if an error code is not as wanted.
func code(t *testing.T, name string, got, want int64) {
	t.Helper()
	if got != want {
		t.Errorf("%s: got code %d, want %d", name, got, want)
	}
}

// lawnOf makes a lawn of rows, without a call of the program.
func lawnOf(rows ...string) impl.Lawn {
	l := impl.Lawn{Wide: int8(len(rows[0])), High: int8(len(rows))}
	for y, row := range rows {
		for x := range len(row) {
			l.Cells[y][x] = uint8(strings.IndexByte(".#T=", row[x]))
		}
	}
	return l
}

// fullLawn makes a lawn in which all cells are of one kind.
func fullLawn(wide, high int8, kind uint8) impl.Lawn {
	l := impl.Lawn{Wide: wide, High: high}
	for y := range high {
		for x := range wide {
			l.Cells[y][x] = kind
		}
	}
	return l
}

// cellsOf lists all cells of a lawn by Y, and then by X.
func cellsOf(l impl.Lawn) []impl.Cell {
	var list []impl.Cell
	for y := int8(0); y < l.High; y++ {
		for x := int8(0); x < l.Wide; x++ {
			list = append(list, impl.Cell{X: x, Y: y})
		}
	}
	return list
}

func kindOf(l impl.Lawn, at impl.Cell) int64 { return int64(l.Cells[at.Y][at.X]) }

func isOpen(l impl.Lawn, at impl.Cell) bool {
	return kindOf(l, at) == impl.LaGrass || kindOf(l, at) == impl.LaPath
}

func beside(a, b impl.Cell) bool {
	return math.Abs(float64(a.X-b.X))+math.Abs(float64(a.Y-b.Y)) == 1
}

// everyLawn goes through all lawns of a size.
func everyLawn(wide, high int8) iter.Seq[impl.Lawn] {
	return func(yield func(impl.Lawn) bool) {
		cells := cellsOf(impl.Lawn{Wide: wide, High: high})
		for number := range 1 << (2 * len(cells)) {
			l := impl.Lawn{Wide: wide, High: high}
			for i, at := range cells {
				l.Cells[at.Y][at.X] = uint8(number >> (2 * i) & 3)
			}
			if !yield(l) {
				return
			}
		}
	}
}

// manyLawns goes through valid lawns: all small ones, those of one kind with the greatest sides, and some of any size.
func manyLawns() iter.Seq[impl.Lawn] {
	return func(yield func(impl.Lawn) bool) {
		for _, size := range [][2]int8{{1, 1}, {2, 1}, {1, 2}, {4, 1}, {1, 4}, {2, 2}, {3, 2}} {
			for l := range everyLawn(size[0], size[1]) {
				if !yield(l) {
					return
				}
			}
		}
		for _, size := range [][2]int8{{10, 10}, {10, 1}, {1, 10}, {10, 9}, {9, 10}} {
			for kind := range uint8(4) {
				if !yield(fullLawn(size[0], size[1], kind)) {
					return
				}
			}
		}
		for l := range mixedLawns(400) {
			if !yield(l) {
				return
			}
		}
	}
}

// mixedLawns goes through lawns of any size in which some kinds are more frequent than others, the same ones each time.
func mixedLawns(count int) iter.Seq[impl.Lawn] {
	return func(yield func(impl.Lawn) bool) {
		random := rand.New(rand.NewSource(1))
		mixes := []string{"....#", "...#T=", "#T=.", "..==#", ".#", "=======#T."}
		for n := range count {
			l := impl.Lawn{Wide: int8(1 + random.Intn(10)), High: int8(1 + random.Intn(10))}
			if n%8 == 0 {
				l.Wide, l.High = 10, 10
			}
			mix := mixes[n%len(mixes)]
			for _, at := range cellsOf(l) {
				l.Cells[at.Y][at.X] = uint8(strings.IndexByte(".#T=", mix[random.Intn(len(mix))]))
			}
			if !yield(l) {
				return
			}
		}
	}
}

// badLawns returns lawns that are not valid, by what is wrong with them.
func badLawns() map[string]impl.Lawn {
	list := map[string]impl.Lawn{
		"no sides":      {},
		"not wide":      {Wide: 0, High: 3},
		"not high":      {Wide: 3, High: 0},
		"too wide":      {Wide: 11, High: 1},
		"too high":      {Wide: 1, High: 11},
		"widest":        {Wide: 127, High: 127},
		"less than 0":   {Wide: -1, High: 2},
		"far below 0":   {Wide: 2, High: -128},
		"kind 4":        lawnOf("..", ".."),
		"kind 255":      fullLawn(10, 10, 0),
		"right of it":   lawnOf("..", ".."),
		"below it":      lawnOf("..", ".."),
		"below to last": lawnOf("..", ".."),
		"last place":    fullLawn(9, 10, 0),
		"last row":      fullLawn(10, 9, 0),
		"all places":    {Wide: 1, High: 1, Cells: fullLawn(10, 10, 1).Cells},
		"kind outside":  {Wide: 1, High: 1, Cells: fullLawn(10, 10, 200).Cells},
	}
	set := func(name string, x, y int, kind uint8) {
		l := list[name]
		l.Cells[y][x] = kind
		list[name] = l
	}
	set("kind 4", 1, 1, 4)
	set("kind 255", 9, 9, 255)
	set("right of it", 2, 0, 1)
	set("below it", 0, 2, 3)
	set("below to last", 1, 9, 2)
	set("last place", 9, 9, 1)
	set("last row", 9, 9, 1)
	return list
}

// noCells returns cells that a lawn has not.
func noCells(l impl.Lawn) []impl.Cell {
	return []impl.Cell{
		{X: -1}, {Y: -1}, {X: -1, Y: -1}, {X: -128}, {Y: -128},
		{X: l.Wide}, {Y: l.High}, {X: l.Wide, Y: l.High},
		{X: l.Wide - 1, Y: l.High}, {X: l.Wide, Y: l.High - 1},
		{X: 10}, {Y: 10}, {X: 127}, {Y: 127}, {X: 127, Y: 127}, {X: -128, Y: 127},
	}
}
