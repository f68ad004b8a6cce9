package tests

import (
	"fmt"
	"math/rand"
	"slices"
	"strconv"
	"strings"
	"testing"

	"loop.example/g01405/impl"
)

func TestEdgeConstants(t *testing.T) {
	same(t, "limits", []int64{impl.MaxLine, impl.MaxPieces}, []int64{5000, 8})
	same(t, "types", []any{impl.Sides{1, 2, 3, 4, 5}, impl.Wear{1, 2, 3, 4, 5}}, []any{impl.Sides([5]int64{1, 2, 3, 4, 5}), impl.Wear([5]int8{1, 2, 3, 4, 5})})
}

// edged is a lawn with its sides, its corners and its rings.
type edged struct {
	l              impl.Lawn
	sides          impl.Sides
	corners, rings int64
}

// edgesTold are lawns of all sorts.
func edgesTold() []edged {
	return []edged{
		{garden(), impl.Sides{16, 4, 0, 0, 12}, 8, 2},
		// One cell, one row, and one column.
		{lawnOf("."), impl.Sides{0, 0, 0, 0, 4}, 4, 1},
		{lawnOf("#"), impl.Sides{}, 0, 0},
		{lawnOf("T"), impl.Sides{}, 0, 0},
		{lawnOf("="), impl.Sides{}, 0, 0},
		{lawnOf(".."), impl.Sides{2, 0, 0, 0, 6}, 4, 1},
		{lawnOf(".", "."), impl.Sides{2, 0, 0, 0, 6}, 4, 1},
		{lawnOf(".#T=."), impl.Sides{0, 1, 0, 1, 6}, 8, 2},
		{lawnOf(".", "#", "T", "=", "."), impl.Sides{0, 1, 0, 1, 6}, 8, 2},
		{lawnOf("T.T"), impl.Sides{0, 0, 2, 0, 2}, 4, 1},
		{fullLawn(10, 1, 0), impl.Sides{18, 0, 0, 0, 22}, 4, 1},
		{fullLawn(1, 10, 0), impl.Sides{18, 0, 0, 0, 22}, 4, 1},
		{lawnOf(".#.#.#.#.#"), impl.Sides{0, 9, 0, 0, 11}, 20, 5},
		// Grass alone, and none.
		{fullLawn(2, 2, 0), impl.Sides{8, 0, 0, 0, 8}, 4, 1},
		{fullLawn(10, 10, 0), impl.Sides{360, 0, 0, 0, 40}, 4, 1},
		{fullLawn(10, 10, 1), impl.Sides{}, 0, 0},
		{fullLawn(10, 10, 2), impl.Sides{}, 0, 0},
		{fullLawn(10, 10, 3), impl.Sides{}, 0, 0},
		// Each kind beside grass.
		{lawnOf("#.", "T="), impl.Sides{0, 1, 0, 1, 2}, 4, 1},
		{lawnOf("#T#", "=.=", "#T#"), impl.Sides{0, 0, 2, 2, 0}, 4, 1},
		{lawnOf("#=#", "T..", "##T"), impl.Sides{2, 2, 2, 1, 1}, 4, 1},
		{example(), impl.Sides{10, 3, 2, 2, 7}, 12, 1},
		// Corners alone in common: each of the two cells has its own.
		{lawnOf(".#", "#."), impl.Sides{0, 4, 0, 0, 4}, 8, 2},
		{lawnOf("#.", ".#"), impl.Sides{0, 4, 0, 0, 4}, 8, 2},
		{lawnOf("T.T", ".T.", "T.T"), impl.Sides{0, 0, 12, 0, 4}, 16, 4},
		{lawnOf(".=.", "=.=", ".=."), impl.Sides{0, 0, 0, 12, 8}, 20, 5},
		{lawnOf("...", "..#", ".#."), impl.Sides{12, 6, 0, 0, 10}, 12, 2},
		// One cell or three around a corner.
		{lawnOf("..", ".#"), impl.Sides{4, 2, 0, 0, 6}, 6, 1},
		{lawnOf("#.", ".."), impl.Sides{4, 2, 0, 0, 6}, 6, 1},
		{lawnOf("..", "#."), impl.Sides{4, 2, 0, 0, 6}, 6, 1},
		{lawnOf(".#", ".."), impl.Sides{4, 2, 0, 0, 6}, 6, 1},
		{lawnOf("..", "##"), impl.Sides{2, 2, 0, 0, 4}, 4, 1},
		{lawnOf(".#", ".#"), impl.Sides{2, 2, 0, 0, 4}, 4, 1},
		{islands(), impl.Sides{0, 31, 0, 0, 9}, 40, 10},
		{target(), impl.Sides{64, 32, 4, 0, 28}, 16, 4},
	}
}

func TestEdgesTold(t *testing.T) {
	for _, one := range edgesTold() {
		name := fmt.Sprintf("%q", impl.LawnText(one.l))
		all, got := impl.SidesOf(one.l)
		code(t, name, got, impl.OK)
		same(t, name, all, one.sides)
		long, got := impl.EdgeLong(one.l)
		same(t, name+", edge", []int64{long, got}, []int64{one.sides[1] + one.sides[2] + one.sides[3] + one.sides[4], impl.OK})
		corners, got := impl.CornersOf(one.l)
		same(t, name+", corners", []int64{corners, got}, []int64{one.corners, impl.OK})
		rings, got := impl.RingsOf(one.l)
		same(t, name+", rings", []int64{rings, got}, []int64{one.rings, impl.OK})
	}
}

func TestRingsTold(t *testing.T) {
	for _, one := range []struct {
		l    impl.Lawn
		want int64
	}{
		// Holes of each kind, of one cell and of several, and of several kinds.
		{lawnOf("...", ".#.", "..."), 2},
		{lawnOf("...", ".T.", "..."), 2},
		{lawnOf("...", ".=.", "..."), 2},
		{lawnOf("....", ".#T.", ".=..", "...."), 2},
		{lawnOf(".....", ".#.T.", "....."), 3},
		{lawnOf(".....", ".#.#.", ".....", ".#.#.", "....."), 5},
		// Holes that touch each other by a corner alone are one.
		{lawnOf("....", ".#..", "..#.", "...."), 2},
		{lawnOf("....", "..#.", ".T..", "...."), 2},
		{lawnOf("....", "..#.", ".#..", "...."), 2},
		{lawnOf(".....", ".#.#.", "..#..", ".#.#.", "....."), 2},
		{lawnOf("......", ".#....", "..#.#.", "...T..", "......"), 2},
		{lawnOf("......", ".#..#.", "..#...", "......"), 3},
		// What comes to the edge of the lawn is none, at each side.
		{lawnOf(".#.", ".#.", "..."), 1},
		{lawnOf("...", ".#.", ".#."), 1},
		{lawnOf("...", "##.", "..."), 1},
		{lawnOf("...", ".##", "..."), 1},
		{lawnOf("...", "###", "..."), 2},
		// Also by a corner alone, in each of the four corners, and over several.
		{lawnOf("#..", ".#.", "..."), 1},
		{lawnOf("..#", ".#.", "..."), 1},
		{lawnOf("...", ".#.", "#.."), 1},
		{lawnOf("...", ".#.", "..#"), 1},
		{lawnOf(".T...", "..#..", ".....", "....."), 1},
		{lawnOf(".....", "..#..", "...#.", "....="), 1},
		{lawnOf(".....", ".#.#.", "..#..", "....T", "....."), 2},
		{lawnOf(".....", ".#.#.", "..#.T", ".....", "....."), 1},
		{lawnOf("#....", "..#..", "....."), 2},
		// A piece in a hole, and a piece that lies there by a corner.
		{lawnOf(".....", ".###.", ".#.#.", ".###.", "....."), 3},
		{lawnOf(".....", ".##..", ".#.#.", ".###.", "....."), 3},
		{lawnOf(".....", ".#.#.", "..#..", "....."), 2},
		{lawnOf(".....", "..#..", ".#.#.", "..#..", "....."), 3},
		{target(), 4},
		// Pieces with corners alone in common are several.
		{lawnOf(".#", "#."), 2},
		{lawnOf(".#.", "#.#", ".#."), 5},
		{lawnOf("#.#", ".#.", "#.#"), 4},
		// The greatest lawn: with the greatest hole, and with as many holes as there may be.
		{lawnOf("..........", ".########.", ".########.", ".########.", ".########.", ".########.", ".########.", ".########.", ".########.", ".........."), 2},
		{lawnOf("..........", ".#.#.#.#..", "..........", ".#.#.#.#..", "..........", ".#.#.#.#..", "..........", ".#.#.#.#..", "..........", ".........."), 17},
		{snake(), 1},
	} {
		rings, got := impl.RingsOf(one.l)
		same(t, fmt.Sprintf("%q", impl.LawnText(one.l)), []int64{rings, got}, []int64{one.want, impl.OK})
	}
}

// The edge, its corners and its rings, compared with what one finds who goes along it.
func TestEdges(t *testing.T) {
	for l := range edgeLawns(500) {
		begins, long := straightsBy(l)
		for name, one := range map[string]struct {
			tell func(impl.Lawn) (int64, int64)
			want int64
		}{
			"edge":    {impl.EdgeLong, long},
			"corners": {impl.CornersOf, begins},
			"rings":   {impl.RingsOf, ringsBy(l)},
		} {
			if count, got := one.tell(l); got != impl.OK || count != one.want {
				t.Fatalf("%s of %q: %d (code %d), want %d", name, impl.LawnText(l), count, got, one.want)
			}
		}
		across, _ := impl.RunsOf(l, true)
		down, _ := impl.RunsOf(l, false)
		same(t, "runs have two ends", long, int64(2*len(across)+2*len(down)))
	}
}

func TestSidesAtTold(t *testing.T) {
	l := lawnOf("..=", "#..", "..T")
	for at, want := range map[impl.Cell]impl.Sides{
		{X: 0, Y: 0}: {1, 1, 0, 0, 2},
		{X: 1, Y: 0}: {2, 0, 0, 1, 1},
		{X: 1, Y: 1}: {3, 1, 0, 0, 0},
		{X: 2, Y: 1}: {1, 0, 1, 1, 1},
		{X: 0, Y: 2}: {1, 1, 0, 0, 2},
		{X: 1, Y: 2}: {2, 0, 1, 0, 1},
	} {
		all, got := impl.SidesAt(l, at)
		code(t, fmt.Sprint(at), got, impl.OK)
		same(t, fmt.Sprint(at), all, want)
	}
	one, _ := impl.SidesAt(lawnOf("."), impl.Cell{})
	same(t, "one cell", one, impl.Sides{0, 0, 0, 0, 4})
	inner, _ := impl.SidesAt(fullLawn(10, 10, 0), impl.Cell{X: 8, Y: 1})
	same(t, "inner cell", inner, impl.Sides{4, 0, 0, 0, 0})
	last, _ := impl.SidesAt(fullLawn(10, 10, 0), impl.Cell{X: 9, Y: 9})
	same(t, "last cell", last, impl.Sides{2, 0, 0, 0, 2})
	all, _ := impl.SidesAt(lawnOf("#T#", "=.=", "#T#"), impl.Cell{X: 1, Y: 1})
	same(t, "no grass around", all, impl.Sides{0, 0, 2, 2, 0})
}

func TestValidWear(t *testing.T) {
	for _, w := range []impl.Wear{{}, {0, 1, 2, 3, 4}, {0, 100, 100, 100, 100}, {0, 0, 0, 0, 100}, {0, 100}, {0, 0, 100}, {0, 0, 0, 100}, {0, 0, 0, 0, 1}} {
		same(t, fmt.Sprint(w), impl.ValidWear(w), true)
	}
	for _, w := range badWears() {
		same(t, fmt.Sprint(w), impl.ValidWear(w), false)
	}
	for beside := range 5 {
		for line := -128; line < 128; line++ {
			var w impl.Wear
			w[beside] = int8(line)
			same(t, fmt.Sprint(w), impl.ValidWear(w), line == 0 || beside > 0 && line > 0 && line < 101)
		}
	}
}

func TestLineTold(t *testing.T) {
	for _, one := range []struct {
		l    impl.Lawn
		w    impl.Wear
		want int64
	}{
		{garden(), impl.Wear{0, 2, 0, 0, 1}, 20},
		{garden(), impl.Wear{}, 0},
		{garden(), impl.Wear{0, 0, 100, 100, 0}, 0},
		{garden(), impl.Wear{0, 100, 100, 100, 100}, 1600},
		{example(), impl.Wear{0, 1, 10, 100, 0}, 223},
		{example(), impl.Wear{0, 0, 0, 0, 7}, 49},
		{lawnOf("."), impl.Wear{0, 9, 9, 9, 100}, 400},
		{lawnOf("#"), impl.Wear{0, 100, 100, 100, 100}, 0},
		{fullLawn(10, 10, 0), impl.Wear{0, 100, 100, 100, 100}, 4000},
		{lawnOf(".#.#.#.#.#", "#.#.#.#.#.", ".#.#.#.#.#", "#.#.#.#.#.", ".#.#.#.#.#", "#.#.#.#.#.", ".#.#.#.#.#", "#.#.#.#.#.", ".#.#.#.#.#", "#.#.#.#.#."), impl.Wear{0, 100, 100, 100, 100}, 20000},
	} {
		line, got := impl.LineFor(one.l, one.w)
		same(t, fmt.Sprint(one.w, impl.LawnText(one.l)), []int64{line, got}, []int64{one.want, impl.OK})
	}
}

func TestSpoolsTold(t *testing.T) {
	same100 := impl.Wear{0, 100, 100, 100, 100}
	for _, one := range []struct {
		l           impl.Lawn
		w           impl.Wear
		holds, want int64
		code        int64
	}{
		{garden(), impl.Wear{0, 2, 0, 0, 1}, 7, 3, impl.OK},
		// All is used to the last bit, or a bit is too little.
		{garden(), impl.Wear{0, 2, 0, 0, 1}, 20, 1, impl.OK},
		{garden(), impl.Wear{0, 2, 0, 0, 1}, 19, 2, impl.OK},
		{garden(), impl.Wear{0, 2, 0, 0, 1}, 10, 2, impl.OK},
		{garden(), impl.Wear{0, 2, 0, 0, 1}, 9, 3, impl.OK},
		{garden(), impl.Wear{0, 2, 0, 0, 1}, 2, 10, impl.OK},
		{garden(), impl.Wear{0, 2, 0, 0, 1}, 3, 8, impl.OK},
		{garden(), impl.Wear{0, 2, 0, 0, 1}, 1, 0, impl.ErrNotFound},
		// Beds are trimmed before the edge of the lawn.
		{garden(), impl.Wear{0, 3, 0, 0, 4}, 7, 14, impl.OK},
		{garden(), impl.Wear{0, 4, 0, 0, 3}, 7, 10, impl.OK},
		{garden(), impl.Wear{0, 3, 0, 0, 2}, 5, 10, impl.OK},
		{lawnOf("#.T", ".=."), impl.Wear{0, 2, 5, 4, 3}, 6, 9, impl.OK},
		// No line is used.
		{garden(), impl.Wear{}, 1, 0, impl.OK},
		{garden(), impl.Wear{}, impl.MaxLine, 0, impl.OK},
		{fullLawn(10, 10, 1), same100, 1, 0, impl.OK},
		{fullLawn(10, 10, 2), same100, impl.MaxLine, 0, impl.OK},
		{lawnOf("="), same100, 100, 0, impl.OK},
		// Sides that use no line need no spool, before others and behind them.
		{garden(), impl.Wear{0, 0, 0, 0, 1}, 12, 1, impl.OK},
		{garden(), impl.Wear{0, 1, 0, 0, 0}, 4, 1, impl.OK},
		{garden(), impl.Wear{0, 1, 0, 0, 0}, 1, 4, impl.OK},
		// Spools that hold 1, and as much as can be.
		{garden(), impl.Wear{0, 1, 1, 1, 1}, 1, 16, impl.OK},
		{garden(), same100, impl.MaxLine, 1, impl.OK},
		{garden(), same100, 100, 16, impl.OK},
		{garden(), same100, 199, 16, impl.OK},
		{garden(), same100, 200, 8, impl.OK},
		{garden(), same100, 99, 0, impl.ErrNotFound},
		{garden(), same100, 1, 0, impl.ErrNotFound},
		{islands(), same100, impl.MaxLine, 1, impl.OK},
		// Sides that are not there may need any line.
		{garden(), impl.Wear{0, 1, 100, 100, 1}, 1, 16, impl.OK},
		{garden(), impl.Wear{0, 1, 2, 0, 1}, 1, 16, impl.OK},
		{garden(), impl.Wear{0, 1, 0, 0, 2}, 1, 0, impl.ErrNotFound},
		{garden(), impl.Wear{0, 2, 0, 0, 0}, 1, 0, impl.ErrNotFound},
		{fullLawn(10, 10, 0), impl.Wear{0, 100, 100, 100, 3}, 3, 40, impl.OK},
		{fullLawn(10, 10, 0), impl.Wear{0, 0, 0, 0, 100}, 99, 0, impl.ErrNotFound},
		{lawnOf("T.T"), impl.Wear{0, 9, 5, 9, 5}, 5, 4, impl.OK},
		{lawnOf("=.="), impl.Wear{0, 9, 9, 5, 5}, 5, 4, impl.OK},
		{lawnOf("=.="), impl.Wear{0, 9, 9, 6, 5}, 5, 0, impl.ErrNotFound},
		{lawnOf("T.T"), impl.Wear{0, 9, 6, 9, 5}, 5, 0, impl.ErrNotFound},
	} {
		spools, got := impl.SpoolsFor(one.l, one.w, one.holds)
		same(t, fmt.Sprint(one.w, one.holds, impl.LawnText(one.l)), []int64{spools, got}, []int64{one.want, one.code})
	}
}

// Line and spools, compared with what one finds who lists all sides.
func TestTrimming(t *testing.T) {
	random := rand.New(rand.NewSource(22))
	enough, little := 0, 0
	for l := range edgeLawns(150) {
		for range 12 {
			var w impl.Wear
			most := anyOf(random, []int64{1, 3, 10, 100})
			for beside := 1; beside < 5; beside++ {
				w[beside] = int8(random.Int63n(most + 1))
			}
			lines := linesBy(l, w)
			line, got := impl.LineFor(l, w)
			same(t, "line", []int64{line, got}, []int64{sumOf(lines), impl.OK})
			for _, holds := range []int64{1, most, 1 + random.Int63n(2*most), 1 + random.Int63n(impl.MaxLine), impl.MaxLine} {
				want, found := spoolsBy(lines, holds)
				wantCode := int64(impl.OK)
				enough++
				if !found {
					wantCode = impl.ErrNotFound
					little++
				}
				if spools, got := impl.SpoolsFor(l, w, holds); spools != want || got != wantCode {
					t.Fatalf("%q, %v, %d: %d (code %d), want %d (code %d)", impl.LawnText(l), w, holds, spools, got, want, wantCode)
				}
			}
		}
	}
	if enough-little < 1000 || little < 1000 {
		t.Errorf("only %d with enough, and %d without", enough-little, little)
	}
}

// changed is a lawn with the cell that changes best, and how long the edge is then.
type changed struct {
	l    impl.Lawn
	at   impl.Cell
	long int64
	code int64
}

func TestGiveUpTold(t *testing.T) {
	for _, one := range []changed{
		{garden(), impl.Cell{X: 1, Y: 1}, 12, impl.OK},
		{example(), impl.Cell{Y: 1}, 12, impl.OK},
		// One cell, one row, and one column.
		{lawnOf("#"), impl.Cell{}, 4, impl.OK},
		{lawnOf("#."), impl.Cell{}, 6, impl.OK},
		{lawnOf("#.", "=T"), impl.Cell{}, 6, impl.OK},
		{lawnOf("##."), impl.Cell{X: 1}, 6, impl.OK},
		{lawnOf("#.#.#"), impl.Cell{X: 2}, 8, impl.OK},
		{lawnOf("#", ".", "#", ".", "#"), impl.Cell{Y: 2}, 8, impl.OK},
		// The edge may become longer, if no bed has grass beside it.
		{lawnOf("##", "##"), impl.Cell{}, 4, impl.OK},
		{lawnOf("T#", "#."), impl.Cell{X: 1}, 6, impl.OK},
		{lawnOf(".=", "=#"), impl.Cell{X: 1, Y: 1}, 8, impl.OK},
		{fullLawn(10, 10, 1), impl.Cell{}, 4, impl.OK},
		// Of several ones the first one: by Y, and then by X.
		{lawnOf("....", ".#..", "..#.", "...."), impl.Cell{X: 1, Y: 1}, 20, impl.OK},
		{lawnOf("....", "..#.", ".#..", "...."), impl.Cell{X: 2, Y: 1}, 20, impl.OK},
		{lawnOf(".#.", "...", "#.."), impl.Cell{X: 1}, 12, impl.OK},
		{lawnOf("#..", "...", ".#."), impl.Cell{X: 1, Y: 2}, 12, impl.OK},
		{lawnOf(".#.#."), impl.Cell{X: 1}, 12, impl.OK},
		// The one with the most grass around it, wherever it is.
		{lawnOf("#...", "..#.", "...."), impl.Cell{X: 2, Y: 1}, 14, impl.OK},
		{lawnOf("#....", ".....", "...#.", "....."), impl.Cell{X: 3, Y: 2}, 18, impl.OK},
		{lawnOf("T.T", ".#.", "T.T"), impl.Cell{X: 1, Y: 1}, 12, impl.OK},
		// Trees and paths stay.
		{lawnOf("."), impl.Cell{}, 0, impl.ErrNotFound},
		{lawnOf("T=."), impl.Cell{}, 0, impl.ErrNotFound},
		{lawnOf("...", ".T.", "..."), impl.Cell{}, 0, impl.ErrNotFound},
		{fullLawn(10, 10, 0), impl.Cell{}, 0, impl.ErrNotFound},
		{fullLawn(10, 10, 2), impl.Cell{}, 0, impl.ErrNotFound},
		{fullLawn(10, 10, 3), impl.Cell{}, 0, impl.ErrNotFound},
		{withCell(fullLawn(10, 10, 0), impl.Cell{X: 9, Y: 9}, 1), impl.Cell{X: 9, Y: 9}, 40, impl.OK},
	} {
		at, long, got := impl.GiveUp(one.l)
		same(t, fmt.Sprintf("%q", impl.LawnText(one.l)), []any{at, long, got}, []any{one.at, one.long, one.code})
	}
}

func TestPlantAtTold(t *testing.T) {
	for _, one := range []changed{
		{garden(), impl.Cell{X: 0}, 16, impl.OK},
		{fullLawn(5, 5, 0), impl.Cell{X: 1, Y: 1}, 24, impl.OK},
		// One cell, one row, and one column.
		{lawnOf("."), impl.Cell{}, 0, impl.OK},
		{lawnOf(".."), impl.Cell{}, 4, impl.OK},
		{lawnOf("..."), impl.Cell{X: 1}, 8, impl.OK},
		{lawnOf("....."), impl.Cell{X: 1}, 12, impl.OK},
		{lawnOf(".", ".", "."), impl.Cell{Y: 1}, 8, impl.OK},
		{lawnOf("T.", "#="), impl.Cell{X: 1}, 0, impl.OK},
		// The edge may become shorter, if no cell has grass beside it.
		{lawnOf(".#.#"), impl.Cell{}, 4, impl.OK},
		{lawnOf("#.", ".#"), impl.Cell{X: 1}, 4, impl.OK},
		{lawnOf(".#..#."), impl.Cell{X: 2}, 12, impl.OK},
		// Of several ones the first one: by Y, and then by X.
		{fullLawn(10, 10, 0), impl.Cell{X: 1, Y: 1}, 44, impl.OK},
		{fullLawn(2, 2, 0), impl.Cell{}, 8, impl.OK},
		{lawnOf("#...", "....", "....", "...."), impl.Cell{X: 1, Y: 1}, 20, impl.OK},
		{lawnOf("....", "....", ".#..", "...."), impl.Cell{X: 2, Y: 1}, 24, impl.OK},
		{lawnOf("...", "...", "...", "..."), impl.Cell{X: 1, Y: 1}, 18, impl.OK},
		{lawnOf("....", "....", "...."), impl.Cell{X: 1, Y: 1}, 18, impl.OK},
		{lawnOf("#T=", "=.#", "T.="), impl.Cell{X: 1, Y: 1}, 4, impl.OK},
		{lawnOf("#"), impl.Cell{}, 0, impl.ErrNotFound},
		{lawnOf("#T="), impl.Cell{}, 0, impl.ErrNotFound},
		{fullLawn(10, 10, 1), impl.Cell{}, 0, impl.ErrNotFound},
		{fullLawn(10, 10, 2), impl.Cell{}, 0, impl.ErrNotFound},
		{fullLawn(10, 10, 3), impl.Cell{}, 0, impl.ErrNotFound},
		{withCell(fullLawn(10, 10, 2), impl.Cell{X: 9, Y: 9}, 0), impl.Cell{X: 9, Y: 9}, 0, impl.OK},
	} {
		at, long, got := impl.PlantAt(one.l)
		same(t, fmt.Sprintf("%q", impl.LawnText(one.l)), []any{at, long, got}, []any{one.at, one.long, one.code})
	}
}

func TestPlantAt(t *testing.T) {
	for l := range edgeLawns(250) {
		wantAt, wantLong, wantCode := changeBy(l, impl.LaGrass, impl.LaBed, true)
		at, long, got := impl.PlantAt(l)
		if at != wantAt || long != wantLong || got != wantCode {
			t.Fatalf("%q: %v, %d (code %d), want %v, %d (code %d)", impl.LawnText(l), at, long, got, wantAt, wantLong, wantCode)
		}
	}
}

func TestRoundOffTold(t *testing.T) {
	for _, one := range []struct {
		l, want impl.Lawn
		count   int64
	}{
		// Grass at four sides, and at three of each four.
		{garden(), fullLawn(3, 3, 0), 1},
		{lawnOf(".T.", ".#.", "..."), lawnOf(".T.", "...", "..."), 1},
		{lawnOf("...", "=#.", "..."), lawnOf("...", "=..", "..."), 1},
		{lawnOf("...", ".#T", "..."), lawnOf("...", "..T", "..."), 1},
		{lawnOf("...", ".#.", ".=."), lawnOf("...", "...", ".=."), 1},
		// Grass at two sides is not enough.
		{lawnOf(".T.", ".#.", ".T."), lawnOf(".T.", ".#.", ".T."), 0},
		{lawnOf(".=.", "=#.", "..."), lawnOf(".=.", "=#.", "..."), 0},
		{lawnOf("T.T", "T#T", "T.T"), lawnOf("T.T", "T#T", "T.T"), 0},
		// At the edge of the lawn, where nothing is no grass.
		{lawnOf(".#.", "..."), lawnOf("...", "..."), 1},
		{lawnOf("...", ".#."), lawnOf("...", "..."), 1},
		{lawnOf("..", "#.", ".."), lawnOf("..", "..", ".."), 1},
		{lawnOf("..", ".#", ".."), lawnOf("..", "..", ".."), 1},
		{lawnOf("#.", ".."), lawnOf("#.", ".."), 0},
		{lawnOf("..", ".#"), lawnOf("..", ".#"), 0},
		{lawnOf(".#."), lawnOf(".#."), 0},
		{lawnOf(".", "#", "."), lawnOf(".", "#", "."), 0},
		{lawnOf("#"), lawnOf("#"), 0},
		{lawnOf(".#.", "T.."), lawnOf("...", "T.."), 1},
		// One after the other: each one has grass enough only then.
		{lawnOf("....", ".##.", "...."), fullLawn(4, 3, 0), 2},
		{lawnOf(".....", ".###.", "....."), fullLawn(5, 3, 0), 3},
		{lawnOf("...", ".#.", ".#.", ".#.", "..."), fullLawn(3, 5, 0), 3},
		{lawnOf("...", ".#.", ".#.", ".#."), fullLawn(3, 4, 0), 3},
		{lawnOf(".....", "###T.", "....."), lawnOf(".....", "###T.", "....."), 0},
		{lawnOf(".....", ".##T.", "....."), lawnOf(".....", "...T.", "....."), 2},
		{lawnOf(".....", "T###.", "....."), lawnOf(".....", "T....", "....."), 3},
		{lawnOf(".......", ".####..", "...#...", "...#...", "......."), fullLawn(7, 5, 0), 6},
		// Blocks stay, and so do rings.
		{lawnOf("....", ".##.", ".##.", "...."), lawnOf("....", ".##.", ".##.", "...."), 0},
		{lawnOf("......", ".##...", ".####.", "......"), lawnOf("......", ".##...", ".##...", "......"), 2},
		{lawnOf(".....", ".###.", ".#.#.", ".###.", "....."), lawnOf(".....", ".###.", ".#.#.", ".###.", "....."), 0},
		{lawnOf(".....", ".###.", ".#.#.", ".#.#.", "....."), fullLawn(5, 5, 0), 7},
		// Trees and paths stay, and a lawn without beds or without grass.
		{lawnOf("...", ".T.", "..."), lawnOf("...", ".T.", "..."), 0},
		{lawnOf("...", ".=.", "..."), lawnOf("...", ".=.", "..."), 0},
		{fullLawn(10, 10, 0), fullLawn(10, 10, 0), 0},
		{fullLawn(10, 10, 1), fullLawn(10, 10, 1), 0},
		{fullLawn(10, 10, 2), fullLawn(10, 10, 2), 0},
		{lawnOf("."), lawnOf("."), 0},
	} {
		round, count, got := impl.RoundOff(one.l)
		name := fmt.Sprintf("%q", impl.LawnText(one.l))
		code(t, name, got, impl.OK)
		same(t, name, impl.LawnText(round), impl.LawnText(one.want))
		same(t, name, []any{round, count}, []any{one.want, one.count})
	}
}

// spiral is a lawn with a row of beds that is rounded off from its inner end on, up to where it comes from the edge of the lawn.
func spiral() impl.Lawn {
	return lawnOf("..........", "#########.", "........#.", ".######.#.", ".#....#.#.", ".#.##.#.#.", ".#..#.#.#.", ".####.#.#.", "......#.#.", "#######.#.")
}

func TestRoundOff(t *testing.T) {
	lawns := []impl.Lawn{spiral()}
	for l := range edgeLawns(400) {
		lawns = append(lawns, l)
	}
	most := int64(0)
	for _, l := range lawns {
		want, wantCount := roundBy(l)
		round, count, got := impl.RoundOff(l)
		if got != impl.OK || round != want || count != wantCount {
			t.Fatalf("%q: %q, %d (code %d), want %q, %d", impl.LawnText(l), impl.LawnText(round), count, got, impl.LawnText(want), wantCount)
		}
		// All that is rounded off was a bed, and nothing is left to be.
		differ, _ := impl.DifferIn(l, round)
		same(t, "beds", int64(len(ofKind(l, impl.LaBed))-len(ofKind(round, impl.LaBed))), count)
		same(t, "others", int64(len(differ)), count)
		_, again, _ := impl.RoundOff(round)
		same(t, "again", again, int64(0))
		most = max(most, count)
	}
	if most < 20 {
		t.Errorf("at most %d are rounded off", most)
	}
}

func TestBorderTold(t *testing.T) {
	for _, one := range []struct {
		l             impl.Lawn
		border, inner []impl.Cell
	}{
		{garden(), walkOf(0, 10, 20, 1, 21, 2, 12, 22), nil},
		{fullLawn(3, 3, 0), walkOf(0, 10, 20, 1, 21, 2, 12, 22), walkOf(11)},
		{lawnOf("."), walkOf(0), nil},
		{lawnOf("#"), nil, nil},
		{lawnOf("T="), nil, nil},
		{lawnOf("..."), walkOf(0, 10, 20), nil},
		{lawnOf(".", ".", "."), walkOf(0, 1, 2), nil},
		{fullLawn(2, 2, 0), walkOf(0, 10, 1, 11), nil},
		{fullLawn(4, 3, 0), walkOf(0, 10, 20, 30, 1, 31, 2, 12, 22, 32), walkOf(11, 21)},
		// Whatever lies beside is no grass; what has a corner in common does not matter.
		{lawnOf("=.T", "...", "#.="), walkOf(10, 1, 21, 12), walkOf(11)},
		{lawnOf("...", "...", ".=."), walkOf(0, 10, 20, 1, 11, 21, 2, 22), nil},
		{lawnOf("...", "..T", "..."), walkOf(0, 10, 20, 1, 11, 2, 12, 22), nil},
		{lawnOf(".#.", "...", "..."), walkOf(0, 20, 1, 11, 21, 2, 12, 22), nil},
		{lawnOf("...", "#..", "..."), walkOf(0, 10, 20, 11, 21, 2, 12, 22), nil},
		{lawnOf(".....", ".....", "..#..", ".....", "....."), walkOf(0, 10, 20, 30, 40, 1, 21, 41, 2, 12, 32, 42, 3, 23, 43, 4, 14, 24, 34, 44), walkOf(11, 31, 13, 33)},
	} {
		name := fmt.Sprintf("%q", impl.LawnText(one.l))
		border, got := impl.BorderOf(one.l)
		code(t, name, got, impl.OK)
		same(t, name+", border", border, one.border)
		inner, got := impl.InnerOf(one.l)
		code(t, name, got, impl.OK)
		same(t, name+", inner", inner, one.inner)
	}
	border, _ := impl.BorderOf(fullLawn(10, 10, 0))
	inner, _ := impl.InnerOf(fullLawn(10, 10, 0))
	same(t, "greatest", []int{len(border), len(inner)}, []int{36, 64})
}

// Cells of the border and inner ones, and how deep they lie.
func TestBorderAndDepth(t *testing.T) {
	deepest := int64(0)
	for l := range edgeLawns(400) {
		depths := depthsBy(l)
		var wantBorder, wantInner []impl.Cell
		for _, at := range grassOf(l) {
			if depths[at] == 0 {
				wantBorder = append(wantBorder, at)
			} else {
				wantInner = append(wantInner, at)
			}
			depth, got := impl.DepthOf(l, at)
			if got != impl.OK || depth != depths[at] {
				t.Fatalf("%q, %v: %d (code %d), want %d", impl.LawnText(l), at, depth, got, depths[at])
			}
			deepest = max(deepest, depth)
		}
		border, got := impl.BorderOf(l)
		code(t, "border", got, impl.OK)
		same(t, "border", border, wantBorder)
		inner, got := impl.InnerOf(l)
		code(t, "inner", got, impl.OK)
		same(t, "inner", inner, wantInner)
	}
	same(t, "deepest", deepest, int64(4))
}

func TestDepthTold(t *testing.T) {
	wide := fullLawn(10, 10, 0)
	for _, one := range []struct {
		l    impl.Lawn
		at   impl.Cell
		want int64
	}{
		{lawnOf("."), impl.Cell{}, 0},
		{lawnOf("..."), impl.Cell{X: 1}, 0},
		{lawnOf(".", ".", "."), impl.Cell{Y: 1}, 0},
		{fullLawn(3, 3, 0), impl.Cell{X: 1, Y: 1}, 1},
		{fullLawn(5, 5, 0), impl.Cell{X: 2, Y: 2}, 2},
		{fullLawn(5, 5, 0), impl.Cell{X: 3, Y: 1}, 1},
		{wide, impl.Cell{X: 4, Y: 5}, 4},
		{wide, impl.Cell{X: 5, Y: 4}, 4},
		{wide, impl.Cell{X: 9, Y: 9}, 0},
		{wide, impl.Cell{X: 0, Y: 5}, 0},
		{wide, impl.Cell{X: 8, Y: 5}, 1},
		{wide, impl.Cell{X: 3, Y: 6}, 3},
		// A bed, a tree or a path is as good as the edge of the lawn.
		{withCell(wide, impl.Cell{X: 4, Y: 4}, 1), impl.Cell{X: 4, Y: 5}, 0},
		{withCell(wide, impl.Cell{X: 4, Y: 4}, 2), impl.Cell{X: 5, Y: 5}, 1},
		{withCell(wide, impl.Cell{X: 4, Y: 4}, 3), impl.Cell{X: 6, Y: 5}, 2},
		{withCell(wide, impl.Cell{X: 4, Y: 4}, 3), impl.Cell{X: 4, Y: 3}, 0},
		// A corner in common is not enough.
		{lawnOf("#...#", ".....", ".....", ".....", "#...#"), impl.Cell{X: 1, Y: 1}, 1},
		{lawnOf("#...#", ".....", ".....", ".....", "#...#"), impl.Cell{X: 2, Y: 2}, 2},
	} {
		depth, got := impl.DepthOf(one.l, one.at)
		same(t, fmt.Sprintf("%v of %q", one.at, impl.LawnText(one.l)), []int64{depth, got}, []int64{one.want, impl.OK})
	}
}

// stripped are pieces, how long a strip is, and the strips that both functions tell.
type stripped struct {
	list      []int64
	strip     int64
	cut       []int64
	cuts      int64
	fewest    []int64
	leastCuts int64
}

func stripsTold() []stripped {
	return []stripped{
		{[]int64{6, 5, 4, 5}, 10, []int64{0, 1, 1, 2}, 3, []int64{0, 1, 0, 1}, 2},
		// No pieces, and one.
		{nil, 1, nil, 0, nil, 0},
		{[]int64{}, 5000, nil, 0, nil, 0},
		{[]int64{1}, 1, []int64{0}, 1, []int64{0}, 1},
		{[]int64{1}, 5000, []int64{0}, 1, []int64{0}, 1},
		{[]int64{5000}, 5000, []int64{0}, 1, []int64{0}, 1},
		// As many as there may be, as long as the strip, and of 1.
		{[]int64{7, 7, 7, 7, 7, 7, 7, 7}, 7, []int64{0, 1, 2, 3, 4, 5, 6, 7}, 8, []int64{0, 1, 2, 3, 4, 5, 6, 7}, 8},
		{[]int64{1, 1, 1, 1, 1, 1, 1, 1}, 1, []int64{0, 1, 2, 3, 4, 5, 6, 7}, 8, []int64{0, 1, 2, 3, 4, 5, 6, 7}, 8},
		{[]int64{1, 1, 1, 1, 1, 1, 1, 1}, 8, make([]int64, 8), 1, make([]int64, 8), 1},
		{[]int64{1, 1, 1, 1, 1, 1, 1, 1}, 7, []int64{0, 0, 0, 0, 0, 0, 0, 1}, 2, []int64{0, 0, 0, 0, 0, 0, 0, 1}, 2},
		{[]int64{1, 1, 1, 1, 1, 1, 1, 1}, 5000, make([]int64, 8), 1, make([]int64, 8), 1},
		{[]int64{5000, 1, 5000, 1, 5000, 1, 4998, 2}, 5000, []int64{0, 1, 2, 3, 4, 5, 5, 6}, 7, []int64{0, 1, 2, 1, 3, 1, 4, 1}, 5},
		{[]int64{2500, 2500, 2500, 2501, 2499}, 5000, []int64{0, 0, 1, 2, 2}, 3, []int64{0, 0, 1, 2, 1}, 3},
		// Only the strip before may be used again by the order.
		{[]int64{4, 7, 1}, 10, []int64{0, 1, 1}, 2, []int64{0, 1, 0}, 2},
		{[]int64{9, 2, 1}, 10, []int64{0, 1, 1}, 2, []int64{0, 1, 0}, 2},
		{[]int64{5, 6, 5}, 10, []int64{0, 1, 2}, 3, []int64{0, 1, 0}, 2},
		{[]int64{1, 10, 1, 10, 1}, 10, []int64{0, 1, 2, 3, 4}, 5, []int64{0, 1, 0, 2, 0}, 3},
		// Enough to the last bit, and one more.
		{[]int64{3, 3, 4}, 10, []int64{0, 0, 0}, 1, []int64{0, 0, 0}, 1},
		{[]int64{3, 3, 5}, 10, []int64{0, 0, 1}, 2, []int64{0, 0, 1}, 2},
		{[]int64{5, 5, 5, 5}, 10, []int64{0, 0, 1, 1}, 2, []int64{0, 0, 1, 1}, 2},
		// Of lists with as few strips the first one, also if one piece has to wait for another one.
		{[]int64{2, 2, 2, 2}, 5, []int64{0, 0, 1, 1}, 2, []int64{0, 0, 1, 1}, 2},
		{[]int64{4, 4, 2, 2}, 6, []int64{0, 1, 1, 2}, 3, []int64{0, 1, 0, 1}, 2},
		{[]int64{2, 2, 4, 4}, 6, []int64{0, 0, 1, 2}, 3, []int64{0, 1, 0, 1}, 2},
		{[]int64{3, 2, 5, 4, 4}, 9, []int64{0, 0, 1, 1, 2}, 3, []int64{0, 0, 1, 0, 1}, 2},
		{[]int64{1, 2, 3, 4, 5, 6, 7, 8}, 12, []int64{0, 0, 0, 0, 1, 1, 2, 3}, 4, []int64{0, 0, 0, 1, 2, 0, 2, 1}, 3},
		{[]int64{4, 3, 3, 3, 5, 6}, 12, []int64{0, 0, 0, 1, 1, 2}, 3, []int64{0, 0, 1, 1, 0, 1}, 2},
		{[]int64{5, 4, 3, 3, 3, 3, 3}, 12, []int64{0, 0, 0, 1, 1, 1, 1}, 2, []int64{0, 0, 0, 1, 1, 1, 1}, 2},
		{[]int64{4, 3, 3, 5, 3, 3, 3}, 12, []int64{0, 0, 0, 1, 1, 1, 2}, 3, []int64{0, 0, 1, 0, 1, 1, 1}, 2},
	}
}

func TestStripsTold(t *testing.T) {
	for _, one := range stripsTold() {
		name := fmt.Sprintf("%v of %d", one.list, one.strip)
		cut, cuts, got := impl.CutStrips(one.list, one.strip)
		code(t, name, got, impl.OK)
		same(t, name, cut, one.cut)
		same(t, name, cuts, one.cuts)
		fewest, least, got := impl.FewestStrips(one.list, one.strip)
		code(t, name+", fewest", got, impl.OK)
		same(t, name+", fewest", fewest, one.fewest)
		same(t, name+", fewest", least, one.leastCuts)
	}
}

func TestCutStrips(t *testing.T) {
	random := rand.New(rand.NewSource(23))
	for n := range 5000 {
		list, strip := randomPieces(random, n%9)
		want, wantCount := stripsBy(list, strip)
		strips, count, got := impl.CutStrips(list, strip)
		if got != impl.OK || !slices.Equal(strips, want) || count != wantCount {
			t.Fatalf("%v of %d: %v, %d (code %d), want %v, %d", list, strip, strips, count, got, want, wantCount)
		}
	}
}

func TestSidesText(t *testing.T) {
	for text, s := range map[string]impl.Sides{
		"0 0 0 0 0":           {},
		"16 4 0 0 12":         {16, 4, 0, 0, 12},
		"400 400 400 400 400": {400, 400, 400, 400, 400},
		"0 0 0 0 400":         {0, 0, 0, 0, 400},
		"399 0 1 10 100":      {399, 0, 1, 10, 100},
		"1 2 3 4 5":           {1, 2, 3, 4, 5},
	} {
		same(t, text, impl.SidesText(s), text)
		read, got := impl.ReadSides(text)
		same(t, text, []any{read, got}, []any{s, int64(impl.OK)})
	}
	for _, count := range []int64{-1, -2, -400, 401, 402, 1000, 1 << 32, 1<<32 + 1, -1 << 63, 1<<63 - 1} {
		for beside := range 5 {
			for _, others := range []impl.Sides{{}, {5, 5, 5, 5, 5}, {400, 400, 400, 400, 400}} {
				others[beside] = count
				same(t, fmt.Sprint(others), impl.SidesText(others), "")
			}
		}
	}
	for count := range int64(401) {
		for beside := range 5 {
			words := []string{"7", "7", "7", "7", "7"}
			s := impl.Sides{7, 7, 7, 7, 7}
			s[beside], words[beside] = count, strconv.FormatInt(count, 10)
			text := strings.Join(words, " ")
			same(t, text, impl.SidesText(s), text)
			read, got := impl.ReadSides(text)
			same(t, text, []any{read, got}, []any{s, int64(impl.OK)})
		}
	}
}

// Sides of all lawns are read from their texts.
func TestSidesTextOfLawns(t *testing.T) {
	for l := range edgeLawns(200) {
		s, _ := impl.SidesOf(l)
		text := impl.SidesText(s)
		same(t, "text", text, strings.Trim(fmt.Sprint(s), "[]"))
		read, got := impl.ReadSides(text)
		same(t, text, []any{read, got}, []any{s, int64(impl.OK)})
	}
}

func TestReadSidesSyntax(t *testing.T) {
	for _, text := range noSidesTexts() {
		read, got := impl.ReadSides(text)
		if got != impl.ErrSyntax || read != (impl.Sides{}) {
			t.Errorf("%.60q: %v (code %d)", text, read, got)
		}
	}
	// All texts of four of these bytes behind four numbers.
	for number := range 14 * 14 * 14 * 14 {
		bytes := "0123456789 -+\n"
		tail := string([]byte{bytes[number%14], bytes[number/14%14], bytes[number/196%14], bytes[number/2744]})
		text := "0 0 0 4" + tail
		var want impl.Sides
		wantCode := int64(impl.ErrSyntax)
		fields := strings.Fields(text)
		if len(fields) == 5 && strings.Join(fields, " ") == text {
			last, err := strconv.ParseUint(fields[4], 10, 9)
			fourth, fourthErr := strconv.ParseUint(fields[3], 10, 9)
			isOne := err == nil && fourthErr == nil && last < 401 && fourth < 401
			if isOne && (fields[4] == "0" || fields[4][0] != '0') {
				want, wantCode = impl.Sides{3: int64(fourth), 4: int64(last)}, impl.OK
			}
		}
		if read, got := impl.ReadSides(text); read != want || got != wantCode {
			t.Fatalf("%q: %v (code %d), want %v (code %d)", text, read, got, want, wantCode)
		}
	}
}

// The document's example of chapter 5.
func TestExample5(t *testing.T) {
	l, w := garden(), impl.Wear{0, 2, 0, 0, 1}
	all, _ := impl.SidesOf(l)
	same(t, "sides", all, impl.Sides{16, 4, 0, 0, 12})
	same(t, "cells", len(grassOf(l)), 8)
	long, _ := impl.EdgeLong(l)
	corners, _ := impl.CornersOf(l)
	rings, _ := impl.RingsOf(l)
	line, _ := impl.LineFor(l, w)
	spools, _ := impl.SpoolsFor(l, w, 7)
	same(t, "numbers", []int64{long, corners, rings, line, spools}, []int64{16, 8, 2, 20, 3})
	at, edge, got := impl.GiveUp(l)
	same(t, "given up", []any{at, edge, got}, []any{impl.Cell{X: 1, Y: 1}, int64(12), int64(impl.OK)})
}
