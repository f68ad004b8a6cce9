package tests

import (
	"fmt"
	"math/rand"
	"slices"
	"strings"
	"testing"

	"loop.example/g01405/impl"
)

// xy makes a cell.
func xy(x, y int8) impl.Cell { return impl.Cell{X: x, Y: y} }

// haulOf makes a haul in the first row.
func haulOf(from, to, amount int8) impl.Haul {
	return impl.Haul{From: xy(from, 0), To: xy(to, 0), Amount: amount}
}

func TestMoleConstants(t *testing.T) {
	same(t, "limits", []int64{impl.MaxLevel, impl.MaxNights, impl.MaxHaul}, []int64{9, 60, 6})
	same(t, "type", impl.Levels{{1}}, impl.Levels([10][10]int8{{1}}))
	same(t, "haul", fmt.Sprintf("%+v", impl.Haul{From: xy(1, 2), To: xy(3, 4), Amount: 5}), "{From:{X:1 Y:2} To:{X:3 Y:4} Amount:5}")
}

func TestValidLevels(t *testing.T) {
	for p := range plots(300) {
		if !impl.ValidLevels(p.l, p.g) {
			t.Fatalf("%v is valid", p)
		}
	}
	for p := range plots(8) {
		for _, g := range badLevels(p) {
			if impl.ValidLevels(p.l, g) {
				t.Fatalf("%v is not valid on %q", g, impl.LawnText(p.l))
			}
		}
	}
	for name, l := range badLawns() {
		for _, g := range []impl.Levels{{}, slope().g, filled(fullLawn(10, 10, 0), 1).g} {
			same(t, name, impl.ValidLevels(l, g), false)
		}
	}
}

// Each place has the levels that it may have: those of grass -9 to 9, all others 0.
func TestValidLevelsPlaces(t *testing.T) {
	for _, l := range []impl.Lawn{lawnOf("."), lawnOf("#"), lawnOf(".#T="), example(), fullLawn(10, 9, 0), fullLawn(9, 10, 0), fullLawn(10, 10, 0), fullLawn(10, 10, 3)} {
		for y := range int8(10) {
			for x := range int8(10) {
				for level := -128; level < 128; level++ {
					p := plot{l: l}.with(xy(x, y), level)
					if impl.ValidLevels(l, p.g) != p.isSound() {
						t.Fatalf("%q, %d at %v: not %v", impl.LawnText(l), level, xy(x, y), p.isSound())
					}
				}
			}
		}
	}
}

// heaped is a plot with what is told of its soil.
type heaped struct {
	p        plot
	sum      int64
	top      impl.Cell
	level    int64
	topCode  int64
	even     plot
	lost     int64
	evenCode int64
}

func heapsTold() []heaped {
	greatest := fullLawn(10, 10, 0)
	return []heaped{
		{slope(), 0, xy(0, 0), 2, impl.OK, plotOf("0 0 0 0"), 2, impl.OK},
		// One cell, one row and one column.
		{plotOf("0"), 0, xy(0, 0), 0, impl.OK, plotOf("0"), 0, impl.OK},
		{plotOf("9"), 9, xy(0, 0), 9, impl.OK, plotOf("9"), 0, impl.OK},
		{plotOf("-9"), -9, xy(0, 0), -9, impl.OK, plotOf("-9"), 0, impl.OK},
		{plotOf("4", "-2", "1"), 3, xy(0, 0), 4, impl.OK, plotOf("1", "1", "1"), 3, impl.OK},
		// No grass.
		{plotOf("#"), 0, impl.Cell{}, 0, impl.ErrNotFound, plot{}, 0, impl.ErrNotFound},
		{plotOf("T =", "# #"), 0, impl.Cell{}, 0, impl.ErrNotFound, plot{}, 0, impl.ErrNotFound},
		{plot{l: fullLawn(10, 10, 3)}, 0, impl.Cell{}, 0, impl.ErrNotFound, plot{}, 0, impl.ErrNotFound},
		// Grass alone, as high and as low as can be.
		{filled(greatest, 9), 900, xy(0, 0), 9, impl.OK, filled(greatest, 9), 0, impl.OK},
		{filled(greatest, -9), -900, xy(0, 0), -9, impl.OK, filled(greatest, -9), 0, impl.OK},
		{filled(greatest, -9).with(xy(9, 9), -8), -899, xy(9, 9), -8, impl.OK, filled(greatest, -9).with(xy(9, 9), -8), 0, impl.OK},
		{filled(greatest, 9).with(xy(9, 9), 8), 899, xy(0, 0), 9, impl.OK, filled(greatest, 9).with(xy(9, 9), 8), 0, impl.OK},
		{filled(greatest, 0).with(xy(3, 7), 9), 9, xy(3, 7), 9, impl.OK, filled(greatest, 0).with(xy(0, 0), 1).with(xy(1, 0), 1).with(xy(2, 0), 1).with(xy(3, 0), 1).with(xy(4, 0), 1).with(xy(5, 0), 1).with(xy(6, 0), 1).with(xy(7, 0), 1).with(xy(3, 7), 1), 8, impl.OK},
		{plotOf("9 -9"), 0, xy(0, 0), 9, impl.OK, plotOf("0 0"), 9, impl.OK},
		{plotOf("9 8"), 17, xy(0, 0), 9, impl.OK, plotOf("9 8"), 0, impl.OK},
		{plotOf("8 9"), 17, xy(1, 0), 9, impl.OK, plotOf("8 9"), 0, impl.OK},
		// A sum that does not divide evenly, also below 0, and with several that are equally high.
		{plotOf("1 0"), 1, xy(0, 0), 1, impl.OK, plotOf("1 0"), 0, impl.OK},
		{plotOf("0 1"), 1, xy(1, 0), 1, impl.OK, plotOf("0 1"), 0, impl.OK},
		{plotOf("-1 0"), -1, xy(1, 0), 0, impl.OK, plotOf("-1 0"), 0, impl.OK},
		{plotOf("0 -1"), -1, xy(0, 0), 0, impl.OK, plotOf("0 -1"), 0, impl.OK},
		{plotOf("-9 -8"), -17, xy(1, 0), -8, impl.OK, plotOf("-9 -8"), 0, impl.OK},
		{plotOf("3 -4"), -1, xy(0, 0), 3, impl.OK, plotOf("0 -1"), 3, impl.OK},
		{plotOf("-4 3"), -1, xy(1, 0), 3, impl.OK, plotOf("-1 0"), 3, impl.OK},
		{plotOf("0 2 0"), 2, xy(1, 0), 2, impl.OK, plotOf("1 1 0"), 1, impl.OK},
		{plotOf("-3 0 0 0"), -3, xy(1, 0), 0, impl.OK, plotOf("-1 0 -1 -1"), 2, impl.OK},
		{plotOf("3 0 3 0 3"), 9, xy(0, 0), 3, impl.OK, plotOf("2 2 2 1 2"), 3, impl.OK},
		{plotOf("0 3 3 0"), 6, xy(1, 0), 3, impl.OK, plotOf("1 2 2 1"), 2, impl.OK},
		{plotOf("1 2 3", "3 2 1"), 12, xy(2, 0), 3, impl.OK, plotOf("2 2 2", "2 2 2"), 2, impl.OK},
		{plotOf("-2 -2 -2", "-2 -2 -1"), -11, xy(2, 1), -1, impl.OK, plotOf("-2 -2 -2", "-2 -2 -1"), 0, impl.OK},
		{plotOf("-7 1 -7", "-7 1 -7"), -26, xy(1, 0), 1, impl.OK, plotOf("-4 -4 -4", "-5 -4 -5"), 10, impl.OK},
		// What is no grass gets nothing.
		{plotOf("4 # T", "= 0 0"), 4, xy(0, 0), 4, impl.OK, plotOf("2 # T", "= 1 1"), 2, impl.OK},
		{plotOf("# -3", "-3 ="), -6, xy(1, 0), -3, impl.OK, plotOf("# -3", "-3 ="), 0, impl.OK},
		{plotOf("# # 5"), 5, xy(2, 0), 5, impl.OK, plotOf("# # 5"), 0, impl.OK},
	}
}

func TestHeapsTold(t *testing.T) {
	for _, one := range heapsTold() {
		name := one.p.String()
		sum, got := impl.SoilSum(one.p.l, one.p.g)
		same(t, name+", sum", []int64{sum, got}, []int64{one.sum, impl.OK})
		top, level, got := impl.HighestCell(one.p.l, one.p.g)
		same(t, name+", top", []any{top, level, got}, []any{one.top, one.level, one.topCode})
		even, lost, got := impl.EvenLevels(one.p.l, one.p.g)
		same(t, name+", even", []any{even, lost, got}, []any{one.even.g, one.lost, one.evenCode})
	}
}

// Sums, the highest cell and even levels, compared with what is found in another way.
func TestHeaps(t *testing.T) {
	for p := range plots(500) {
		sum, got := impl.SoilSum(p.l, p.g)
		if got != impl.OK || sum != p.sum() {
			t.Fatalf("%v: sum %d (code %d), want %d", p, sum, got, p.sum())
		}
		if len(grassOf(p.l)) == 0 {
			continue
		}
		wantTop, wantLevel := mostBy(grassOf(p.l), func(at impl.Cell) int64 { return int64(p.at(at)) + 9 })
		top, level, got := impl.HighestCell(p.l, p.g)
		if got != impl.OK || top != wantTop || level != wantLevel-9 {
			t.Fatalf("%v: %v, %d (code %d), want %v, %d", p, top, level, got, wantTop, wantLevel-9)
		}
		wantEven, wantLost := evenBy(p)
		even, lost, got := impl.EvenLevels(p.l, p.g)
		if got != impl.OK || even != wantEven.g || lost != wantLost {
			t.Fatalf("%v: even %v, %d (code %d), want %v, %d", p, plot{p.l, even}, lost, got, wantEven, wantLost)
		}
	}
}

// For no other levels that are as even less soil has to be moved: all small plots.
func TestEvenLeast(t *testing.T) {
	for p := range everyPlot(4, 1, -2, 0, 1, 3) {
		even, lost, _ := impl.EvenLevels(p.l, p.g)
		lowest := slices.Min(even[0][:4])
		for other := range everyPlot(4, 1, int(lowest), int(lowest)+1) {
			if other.sum() != p.sum() {
				continue
			}
			loses := int64(0)
			for _, at := range cellsOf(p.l) {
				loses += int64(max(0, p.at(at)-other.at(at)))
			}
			if loses < lost || other.g == even && loses != lost {
				t.Fatalf("%v: %v loses %d, but %v loses %d", p, plot{p.l, even}, lost, other, loses)
			}
		}
	}
}

func TestHillsTold(t *testing.T) {
	mixed := plotOf("3 # 4", "= -9 3", "9 T 2")
	for _, one := range []struct {
		p     plot
		least int64
		want  []impl.Cell
	}{
		{slope(), 0, walkOf(0, 10)},
		{slope(), -1, walkOf(0, 10, 20, 30)},
		{slope(), 1, walkOf(0)},
		{slope(), 2, walkOf(0)},
		{slope(), 3, nil},
		{slope(), 9, nil},
		{slope(), -9, walkOf(0, 10, 20, 30)},
		{mixed, 3, walkOf(0, 20, 21, 2)},
		{mixed, 4, walkOf(20, 2)},
		{mixed, 9, walkOf(2)},
		{mixed, 0, walkOf(0, 20, 21, 2, 22)},
		{mixed, -8, walkOf(0, 20, 21, 2, 22)},
		{mixed, -9, walkOf(0, 20, 11, 21, 2, 22)},
		{plotOf("0"), 0, walkOf(0)},
		{plotOf("0"), 1, nil},
		{plotOf("-9"), -9, walkOf(0)},
		{plotOf("-9"), -8, nil},
		{plotOf("9"), 9, walkOf(0)},
		{plotOf("1", "2", "1"), 1, walkOf(0, 1, 2)},
		{plotOf("1", "2", "1"), 2, walkOf(1)},
		// What is no grass is no hill, though its level is 0.
		{plotOf("#"), 0, nil},
		{plotOf("# T", "= ="), -9, nil},
		{plot{l: fullLawn(10, 10, 1)}, -9, nil},
		{plotOf("0 # 0"), 0, walkOf(0, 20)},
		{filled(fullLawn(10, 10, 0), 9), 9, cellsOf(fullLawn(10, 10, 0))},
	} {
		hills, got := impl.HillsIn(one.p.l, one.p.g, one.least)
		code(t, one.p.String(), got, impl.OK)
		same(t, fmt.Sprint(one.p, one.least), hills, one.want)
	}
}

func TestHills(t *testing.T) {
	for p := range plots(200) {
		for least := -9; least <= 9; least++ {
			want := slices.DeleteFunc(grassOf(p.l), func(at impl.Cell) bool { return p.at(at) < least })
			hills, got := impl.HillsIn(p.l, p.g, int64(least))
			if got != impl.OK || !slices.Equal(hills, want) {
				t.Fatalf("%v, %d: %v (code %d), want %v", p, least, hills, got, want)
			}
		}
	}
}

func TestSteepTold(t *testing.T) {
	for _, one := range []struct {
		p        plot
		by, want int64
	}{
		{slope(), 0, 2},
		{slope(), 1, 1},
		{slope(), 2, 0},
		{slope(), 18, 0},
		{plotOf("0"), 0, 0},
		{plotOf("#"), 0, 0},
		{plotOf("9 -9"), 18, 0},
		{plotOf("9 -9"), 17, 1},
		{plotOf("9 -9"), 0, 1},
		{plotOf("-9 9"), 17, 1},
		{plotOf("-9", "9", "-9"), 17, 2},
		{plotOf("-9", "9", "-9"), 18, 0},
		{plotOf("5 5", "5 5"), 0, 0},
		{plotOf("0 1", "1 0"), 0, 4},
		{plotOf("0 1", "1 0"), 1, 0},
		// A corner in common is not enough, nor a cell between.
		{plotOf("0 #", "# 9"), 0, 0},
		{plotOf("9 # 0"), 0, 0},
		{plotOf("9 = -9"), 0, 0},
		{plotOf("9", "T", "-9"), 0, 0},
		// What is no grass has no level.
		{plotOf("9 #", "9 ="), 0, 0},
		{plotOf("# 9 #", "9 9 9", "# 9 #"), 0, 0},
		{plotOf("1 2 4", "8 3 4"), 0, 6},
		{plotOf("1 2 4", "8 3 4"), 1, 3},
		{plotOf("1 2 4", "8 3 4"), 2, 2},
		{plotOf("1 2 4", "8 3 4"), 5, 1},
		{plotOf("1 2 4", "8 3 4"), 7, 0},
	} {
		count, got := impl.SteepSteps(one.p.l, one.p.g, one.by)
		same(t, fmt.Sprint(one.p, one.by), []int64{count, got}, []int64{one.want, impl.OK})
	}
	// As many pairs as there may be.
	greatest := plot{l: fullLawn(10, 10, 0)}
	for _, at := range cellsOf(greatest.l) {
		greatest = greatest.with(at, []int{-9, 9}[(at.X+at.Y)%2])
	}
	for by, want := range map[int64]int64{0: 180, 17: 180, 18: 0} {
		count, got := impl.SteepSteps(greatest.l, greatest.g, by)
		same(t, fmt.Sprint("greatest ", by), []int64{count, got}, []int64{want, impl.OK})
	}
}

func TestSteep(t *testing.T) {
	for p := range plots(120) {
		var differs []int
		grass := grassOf(p.l)
		for i, a := range grass {
			for _, b := range grass[i+1:] {
				if beside(a, b) {
					differs = append(differs, max(p.at(a)-p.at(b), p.at(b)-p.at(a)))
				}
			}
		}
		for by := range 19 {
			want := int64(0)
			for _, differ := range differs {
				if differ > by {
					want++
				}
			}
			if count, got := impl.SteepSteps(p.l, p.g, int64(by)); got != impl.OK || count != want {
				t.Fatalf("%v by %d: %d (code %d), want %d", p, by, count, got, want)
			}
		}
	}
}

func TestMoveSoilTold(t *testing.T) {
	for _, one := range []struct {
		p    plot
		h    impl.Haul
		want plot
		code int64
	}{
		{slope(), haulOf(0, 3, 2), plotOf("0 0 -1 1"), impl.OK},
		{slope(), haulOf(3, 0, 2), plotOf("4 0 -1 -3"), impl.OK},
		{plotOf("0 0"), haulOf(0, 1, 1), plotOf("-1 1"), impl.OK},
		{plotOf("0 0"), haulOf(1, 0, 1), plotOf("1 -1"), impl.OK},
		// As much as can be, just to the limits, and one above.
		{plotOf("9 -9"), haulOf(0, 1, 18), plotOf("-9 9"), impl.OK},
		{plotOf("-9 9"), haulOf(1, 0, 18), plotOf("9 -9"), impl.OK},
		{plotOf("9 -8"), haulOf(0, 1, 18), plot{}, impl.ErrState},
		{plotOf("8 -9"), haulOf(0, 1, 18), plot{}, impl.ErrState},
		{plotOf("9 -8"), haulOf(0, 1, 17), plotOf("-8 9"), impl.OK},
		{plotOf("8 -9"), haulOf(0, 1, 17), plotOf("-9 8"), impl.OK},
		{plotOf("0 8"), haulOf(0, 1, 1), plotOf("-1 9"), impl.OK},
		{plotOf("0 8"), haulOf(0, 1, 2), plot{}, impl.ErrState},
		{plotOf("0 9"), haulOf(0, 1, 1), plot{}, impl.ErrState},
		{plotOf("-8 0"), haulOf(0, 1, 1), plotOf("-9 1"), impl.OK},
		{plotOf("-8 0"), haulOf(0, 1, 2), plot{}, impl.ErrState},
		{plotOf("-9 0"), haulOf(0, 1, 1), plot{}, impl.ErrState},
		{plotOf("-9 9"), haulOf(0, 1, 18), plot{}, impl.ErrState},
		// From a cell to itself.
		{slope(), haulOf(1, 1, 1), plot{}, impl.ErrState},
		{plotOf("5"), haulOf(0, 0, 1), plot{}, impl.ErrState},
		{plotOf("0"), haulOf(0, 0, 18), plot{}, impl.ErrState},
		// Cells that are no grass; that one cannot come there does not matter.
		{plotOf("5 #"), haulOf(0, 1, 1), plot{}, impl.ErrState},
		{plotOf("5 #"), haulOf(1, 0, 1), plot{}, impl.ErrState},
		{plotOf("5 T"), haulOf(0, 1, 1), plot{}, impl.ErrState},
		{plotOf("5 ="), haulOf(0, 1, 1), plot{}, impl.ErrState},
		{plotOf("# ="), haulOf(0, 1, 1), plot{}, impl.ErrState},
		{plotOf("5 # 0"), haulOf(0, 2, 3), plotOf("2 # 3"), impl.OK},
		// No cells, and no amounts.
		{slope(), haulOf(0, 4, 1), plot{}, impl.ErrRange},
		{slope(), haulOf(4, 0, 1), plot{}, impl.ErrRange},
		{slope(), haulOf(-1, 0, 1), plot{}, impl.ErrRange},
		{slope(), haulOf(0, 1, 0), plot{}, impl.ErrRange},
		{slope(), haulOf(0, 1, 19), plot{}, impl.ErrRange},
		{slope(), haulOf(0, 1, -1), plot{}, impl.ErrRange},
		// Of two errors the first one.
		{slope(), haulOf(4, 4, 1), plot{}, impl.ErrRange},
		{slope(), haulOf(0, 0, 0), plot{}, impl.ErrRange},
		{plotOf("5 #"), haulOf(1, 1, 19), plot{}, impl.ErrRange},
		{plotOf("5 #"), haulOf(1, 2, 1), plot{}, impl.ErrRange},
		{plotOf("9 9"), haulOf(0, 1, 19), plot{}, impl.ErrRange},
	} {
		moved, got := impl.MoveSoil(one.p.l, one.p.g, one.h)
		same(t, fmt.Sprint(one.p, one.h), []any{moved, got}, []any{one.want.g, one.code})
	}
}

// All hauls between cells of small plots, with all amounts.
func TestMoveSoil(t *testing.T) {
	list := []plot{slope(), plotOf("9 # -9", "0 = 1", "T -9 9"), plotOf("9 -9", "0 0"), plotOf("#")}
	for _, p := range list {
		cells := append(noCells(p.l), cellsOf(p.l)...)
		for _, from := range cells {
			for _, to := range cells {
				for amount := -128; amount < 128; amount++ {
					h := impl.Haul{From: from, To: to, Amount: int8(amount)}
					want, wantCode := haulBy(p, h)
					moved, got := impl.MoveSoil(p.l, p.g, h)
					all, allCode := impl.MoveAll(p.l, p.g, []impl.Haul{h})
					if moved != want.g || got != wantCode || all != want.g || allCode != wantCode {
						t.Fatalf("%v, %v: %v (code %d), want %v (code %d)", p, h, moved, got, want, wantCode)
					}
				}
			}
		}
	}
}

func TestMoveAllTold(t *testing.T) {
	toAndBack := slices.Repeat([]impl.Haul{haulOf(0, 1, 1), haulOf(1, 0, 1)}, 30)
	bad := haulOf(0, 1, 0)
	for _, one := range []struct {
		p    plot
		list []impl.Haul
		want plot
		code int64
	}{
		{slope(), nil, slope(), impl.OK},
		{plotOf("#"), nil, plotOf("#"), impl.OK},
		{slope(), []impl.Haul{haulOf(0, 2, 1), haulOf(0, 3, 1)}, plotOf("0 0 0 0"), impl.OK},
		{slope(), []impl.Haul{haulOf(0, 1, 2), haulOf(1, 2, 2), haulOf(2, 3, 2)}, plotOf("0 0 -1 1"), impl.OK},
		// A haul may make room for the next one, or take it.
		{plotOf("9 9 0"), []impl.Haul{haulOf(1, 2, 1), haulOf(0, 1, 1)}, plotOf("8 9 1"), impl.OK},
		{plotOf("9 9 0"), []impl.Haul{haulOf(0, 1, 1), haulOf(1, 2, 1)}, plot{}, impl.ErrState},
		{plotOf("0 8 0"), []impl.Haul{haulOf(0, 1, 1), haulOf(2, 1, 1)}, plot{}, impl.ErrState},
		{plotOf("9 -9"), []impl.Haul{haulOf(0, 1, 18), haulOf(1, 0, 18), haulOf(0, 1, 9)}, plotOf("0 0"), impl.OK},
		// The first haul with an error tells it.
		{slope(), []impl.Haul{haulOf(0, 0, 1), haulOf(0, 9, 1)}, plot{}, impl.ErrState},
		{slope(), []impl.Haul{haulOf(0, 9, 1), haulOf(0, 0, 1)}, plot{}, impl.ErrRange},
		{slope(), []impl.Haul{haulOf(0, 1, 1), haulOf(0, 0, 1), bad}, plot{}, impl.ErrState},
		{slope(), []impl.Haul{haulOf(0, 1, 1), bad, haulOf(0, 0, 1)}, plot{}, impl.ErrRange},
		{slope(), []impl.Haul{haulOf(0, 1, 18), bad}, plot{}, impl.ErrState},
		// As many as there may be, and one more, whatever they are.
		{plotOf("0 0"), toAndBack, plotOf("0 0"), impl.OK},
		{plotOf("0 0"), append(toAndBack[:59:59], bad), plot{}, impl.ErrRange},
		{plotOf("0 0"), append(toAndBack[:60:60], toAndBack[0]), plot{}, impl.ErrLimit},
		{plotOf("0 0"), append(toAndBack[:60:60], bad), plot{}, impl.ErrLimit},
		{plotOf("0 0"), append([]impl.Haul{bad}, toAndBack...), plot{}, impl.ErrLimit},
		{plotOf("0 0"), make([]impl.Haul, 61), plot{}, impl.ErrLimit},
		{plotOf("0 0"), make([]impl.Haul, 60), plot{}, impl.ErrRange},
	} {
		moved, got := impl.MoveAll(one.p.l, one.p.g, one.list)
		same(t, fmt.Sprint(one.p, one.list), []any{moved, got}, []any{one.want.g, one.code})
	}
}

// Several hauls are as one after the other.
func TestMoveAll(t *testing.T) {
	random := rand.New(rand.NewSource(32))
	codes := map[int64]int{}
	for p := range plots(300) {
		var list []impl.Haul
		cells := append(cellsOf(p.l), grassOf(p.l)...)
		for range random.Intn(5) {
			list = append(list, impl.Haul{From: anyOf(random, cells), To: anyOf(random, cells), Amount: int8(1 + random.Intn(3))})
		}
		if len(list) > 0 && random.Intn(4) == 0 {
			anyPlace := &list[random.Intn(len(list))]
			anyPlace.To = anyOf(random, noCells(p.l))
		}
		want, wantCode := p, int64(impl.OK)
		for _, h := range list {
			if wantCode == impl.OK {
				want, wantCode = haulBy(want, h)
			}
		}
		moved, got := impl.MoveAll(p.l, p.g, list)
		if moved != want.g || got != wantCode {
			t.Fatalf("%v, %v: %v (code %d), want %v (code %d)", p, list, plot{p.l, moved}, got, want, wantCode)
		}
		codes[got]++
	}
	if codes[impl.OK] < 50 || codes[impl.ErrRange] < 50 || codes[impl.ErrState] < 50 {
		t.Errorf("codes %v", codes)
	}
}

// hauled is a plot with its hauls, told by pairs of cells.
type hauled struct {
	p     plot
	pairs []impl.Cell
	steps int64
	code  int64
}

func haulsTold() []hauled {
	return []hauled{
		{slope(), walkOf(0, 20, 0, 30), 5, impl.OK},
		// Nothing to be moved.
		{plotOf("0"), nil, 0, impl.OK},
		{plotOf("#"), nil, 0, impl.OK},
		{plotOf("0 T 0"), nil, 0, impl.OK},
		{plot{l: fullLawn(10, 10, 0)}, nil, 0, impl.OK},
		{plot{l: fullLawn(10, 10, 2)}, nil, 0, impl.OK},
		// To each side.
		{plotOf("1 -1"), walkOf(0, 10), 1, impl.OK},
		{plotOf("-1 1"), walkOf(10, 0), 1, impl.OK},
		{plotOf("1", "-1"), walkOf(0, 1), 1, impl.OK},
		{plotOf("-1", "1"), walkOf(1, 0), 1, impl.OK},
		// Several units of one cell, and to one cell.
		{plotOf("2 -2"), walkOf(0, 10, 0, 10), 2, impl.OK},
		{plotOf("3 -1 -2"), walkOf(0, 10, 0, 20, 0, 20), 5, impl.OK},
		{plotOf("1 -2 1"), walkOf(0, 10, 20, 10), 2, impl.OK},
		{plotOf("-1 2 -1"), walkOf(10, 0, 10, 20), 2, impl.OK},
		{plotOf("-2 3 -1"), walkOf(10, 0, 10, 0, 10, 20), 3, impl.OK},
		// Several lists that are equally short: the first one.
		{plotOf("1 1 -1 -1"), walkOf(0, 20, 10, 30), 4, impl.OK},
		{plotOf("-1 -1 1 1"), walkOf(20, 0, 30, 10), 4, impl.OK},
		{plotOf("1 1", "-1 -1"), walkOf(0, 1, 10, 11), 2, impl.OK},
		{plotOf("1 -1", "-1 1"), walkOf(0, 10, 11, 1), 2, impl.OK},
		{plotOf("-1 1", "1 -1"), walkOf(10, 0, 1, 11), 2, impl.OK},
		{plotOf("-1 0 1", "0 0 0", "1 0 -1"), walkOf(20, 0, 2, 22), 4, impl.OK},
		{plotOf("0 1 0", "-1 0 -1", "0 1 0"), walkOf(10, 1, 12, 21), 4, impl.OK},
		// What is nearest for the first unit is not always best.
		{plotOf("-1 0 1 -1 1"), walkOf(20, 0, 40, 30), 3, impl.OK},
		{plotOf("1 -1 -1 1"), walkOf(0, 10, 30, 20), 2, impl.OK},
		{plotOf("-1 1 0 -1 1 0 -1 1"), walkOf(10, 0, 40, 30, 70, 60), 3, impl.OK},
		{plotOf("-1 0 0 1 -1 1 -1 1"), walkOf(30, 0, 50, 40, 70, 60), 5, impl.OK},
		// Around beds and trees, over paths.
		{plotOf("1 # -1", "0 0 0"), walkOf(0, 20), 4, impl.OK},
		{plotOf("1 T -1", "0 0 0"), walkOf(0, 20), 4, impl.OK},
		{plotOf("1 = -1", "0 0 0"), walkOf(0, 20), 2, impl.OK},
		{plotOf("1 # -1", "= = ="), walkOf(0, 20), 4, impl.OK},
		{plotOf("1 0 #", "# 0 #", "-1 0 0"), walkOf(0, 2), 4, impl.OK},
		// Holes to which no unit can come, or not all that are left.
		{plotOf("1 # -1"), nil, 0, impl.ErrNotFound},
		{plotOf("1 T -1"), nil, 0, impl.ErrNotFound},
		{plotOf("1 #", "# -1"), nil, 0, impl.ErrNotFound},
		{plotOf("1 1 # -1 -1"), nil, 0, impl.ErrNotFound},
		{plotOf("1 -2 # 1 0"), nil, 0, impl.ErrNotFound},
		{plotOf("2 -1 # -1 0"), nil, 0, impl.ErrNotFound},
		{plotOf("6 # -6"), nil, 0, impl.ErrNotFound},
		{plotOf("1 -1 # 1 -1"), walkOf(0, 10, 30, 40), 2, impl.OK},
		{plotOf("-1 1 # 1 -1"), walkOf(10, 0, 30, 40), 2, impl.OK},
		{plotOf("2 -1 -1 # -3 3"), walkOf(0, 10, 0, 20, 50, 40, 50, 40, 50, 40), 6, impl.OK},
		// As many units as there may be, and one more.
		{plotOf("6 -6"), walkOf(0, 10, 0, 10, 0, 10, 0, 10, 0, 10, 0, 10), 6, impl.OK},
		{plotOf("6 -3 -3"), walkOf(0, 10, 0, 10, 0, 10, 0, 20, 0, 20, 0, 20), 9, impl.OK},
		{plotOf("1 1 1 1 1 1", "-1 -1 -1 -1 -1 -1"), walkOf(0, 1, 10, 11, 20, 21, 30, 31, 40, 41, 50, 51), 6, impl.OK},
		{plotOf("7 -7"), nil, 0, impl.ErrLimit},
		{plotOf("9 -9"), nil, 0, impl.ErrLimit},
		{plotOf("1 1 1 1 1 1 1", "-1 -1 -1 -1 -1 -1 -1"), nil, 0, impl.ErrLimit},
		{plotOf("6 1 -7"), nil, 0, impl.ErrLimit},
		// The sum is told first, then the units, and that there are no hauls at last.
		{plotOf("1"), nil, 0, impl.ErrState},
		{plotOf("-1"), nil, 0, impl.ErrState},
		{plotOf("1 0"), nil, 0, impl.ErrState},
		{plotOf("2 -1"), nil, 0, impl.ErrState},
		{plotOf("1 -2"), nil, 0, impl.ErrState},
		{plotOf("7 -6"), nil, 0, impl.ErrState},
		{plotOf("9 9 # -9"), nil, 0, impl.ErrState},
		{plotOf("2 # -1"), nil, 0, impl.ErrState},
		{plotOf("7 # -7"), nil, 0, impl.ErrLimit},
	}
}

func TestHaulsTold(t *testing.T) {
	for _, one := range haulsTold() {
		var want []impl.Haul
		for i := 0; i < len(one.pairs); i += 2 {
			want = append(want, impl.Haul{From: one.pairs[i], To: one.pairs[i+1], Amount: 1})
		}
		hauls, steps, got := impl.LeastHaul(one.p.l, one.p.g)
		same(t, one.p.String(), hauls, want)
		same(t, one.p.String(), []int64{steps, got}, []int64{one.steps, one.code})
	}
}

func TestRollTold(t *testing.T) {
	for _, one := range []struct {
		p    plot
		y    int64
		want plot
		gone int64
	}{
		{slope(), 0, plotOf("1 0 0 -1"), 2},
		// Differences of 1, 2, 3, 4 and more, and below 0.
		{plotOf("1 0"), 0, plotOf("1 0"), 0},
		{plotOf("2 0"), 0, plotOf("1 1"), 1},
		{plotOf("3 0"), 0, plotOf("2 1"), 1},
		{plotOf("4 0"), 0, plotOf("2 2"), 2},
		{plotOf("5 0"), 0, plotOf("3 2"), 2},
		{plotOf("9 -8"), 0, plotOf("1 0"), 8},
		{plotOf("9 -9"), 0, plotOf("0 0"), 9},
		{plotOf("-7 -9"), 0, plotOf("-8 -8"), 1},
		{plotOf("0 0"), 0, plotOf("0 0"), 0},
		{plotOf("0 1"), 0, plotOf("0 1"), 0},
		{plotOf("0 2"), 0, plotOf("0 2"), 0},
		{plotOf("-9 9"), 0, plotOf("-9 9"), 0},
		// The next step looks at what lies there then.
		{plotOf("8 0 0 0"), 0, plotOf("4 2 1 1"), 7},
		{plotOf("4 2 1 1"), 0, plotOf("3 2 2 1"), 2},
		{plotOf("3 2 2 1"), 0, plotOf("3 2 2 1"), 0},
		{plotOf("2 1 0"), 0, plotOf("2 1 0"), 0},
		{plotOf("3 1 0"), 0, plotOf("2 1 1"), 2},
		{plotOf("0 0 9"), 0, plotOf("0 0 9"), 0},
		{plotOf("9 -9 -9 -9 -9 -9 -9 -9 -9 -9"), 0, plotOf("0 -4 -7 -8 -8 -9 -9 -9 -9 -9"), 16},
		// Beds, trees and paths between, and no grass at all.
		{plotOf("9 # 0 9 0"), 0, plotOf("9 # 0 5 4"), 4},
		{plotOf("9 T -9"), 0, plotOf("9 T -9"), 0},
		{plotOf("9 = -9"), 0, plotOf("9 = -9"), 0},
		{plotOf("9 #"), 0, plotOf("9 #"), 0},
		{plotOf("# -9"), 0, plotOf("# -9"), 0},
		{plotOf("9 0 # 9 0"), 0, plotOf("5 4 # 5 4"), 8},
		{plotOf("# = T"), 0, plotOf("# = T"), 0},
		{plotOf("#"), 0, plotOf("#"), 0},
		// One row of several, one cell, and one column.
		{plotOf("9 0", "9 0", "9 0"), 0, plotOf("5 4", "9 0", "9 0"), 4},
		{plotOf("9 0", "9 0", "9 0"), 1, plotOf("9 0", "5 4", "9 0"), 4},
		{plotOf("9 0", "9 0", "9 0"), 2, plotOf("9 0", "9 0", "5 4"), 4},
		{plotOf("9 0", "# 9", "9 0"), 1, plotOf("9 0", "# 9", "9 0"), 0},
		{plotOf("9"), 0, plotOf("9"), 0},
		{plotOf("9", "-9", "0"), 0, plotOf("9", "-9", "0"), 0},
		{plotOf("9", "-9", "0"), 2, plotOf("9", "-9", "0"), 0},
	} {
		rolled, gone, got := impl.RollRow(one.p.l, one.p.g, one.y)
		same(t, fmt.Sprint(one.p, one.y), []any{rolled, gone, got}, []any{one.want.g, one.gone, int64(impl.OK)})
	}
}

// Rows that are rolled again and again, until nothing goes any more.
func TestRoll(t *testing.T) {
	again := 0
	for p := range plots(300) {
		for y := range p.l.High {
			for gone := int64(1); gone > 0; again++ {
				want, wantGone := rollBy(p, y)
				rolled, now, got := impl.RollRow(p.l, p.g, int64(y))
				if got != impl.OK || rolled != want.g || now != wantGone {
					t.Fatalf("%v, %d: %v, %d (code %d), want %v, %d", p, y, plot{p.l, rolled}, now, got, want, wantGone)
				}
				p, gone = want, now
			}
		}
	}
	if again < 2000 {
		t.Errorf("only %d times", again)
	}
}

func TestRollRange(t *testing.T) {
	for p := range plots(20) {
		for _, y := range []int64{-1, -2, int64(p.l.High), int64(p.l.High) + 1, 10, 127, 256, 1 << 32, -1 << 63, 1<<63 - 1} {
			rolled, gone, got := impl.RollRow(p.l, p.g, y)
			same(t, fmt.Sprint(p, y), []any{rolled, gone, got}, []any{impl.Levels{}, int64(0), int64(impl.ErrRange)})
		}
	}
}

// stepped is a night of a mole.
type stepped struct {
	p          plot
	at, before impl.Cell
	want       plot
	to         impl.Cell
}

func stepsTold() []stepped {
	middle, even := xy(1, 1), plotOf("9 0 9", "0 0 0", "9 0 9")
	return []stepped{
		{slope(), xy(0, 0), xy(0, 0), plotOf("2 1 -1 -1"), xy(1, 0)},
		{slope(), xy(1, 0), xy(0, 0), plotOf("2 0 0 -1"), xy(2, 0)},
		{slope(), xy(3, 0), xy(2, 0), plotOf("2 0 0 -1"), xy(2, 0)},
		// It cannot go at all: it stays, and throws up there.
		{plotOf("0"), xy(0, 0), xy(0, 0), plotOf("1"), xy(0, 0)},
		{plotOf("8"), xy(0, 0), xy(0, 0), plotOf("9"), xy(0, 0)},
		{plotOf("9"), xy(0, 0), xy(0, 0), plotOf("9"), xy(0, 0)},
		{plotOf("-9"), xy(0, 0), xy(0, 0), plotOf("-8"), xy(0, 0)},
		{plotOf("0 # -5"), xy(0, 0), xy(2, 0), plotOf("1 # -5"), xy(0, 0)},
		{plotOf("0 = -5"), xy(2, 0), xy(2, 0), plotOf("0 = -4"), xy(2, 0)},
		{plotOf("# T #", "= 3 =", "# T #"), middle, middle, plotOf("# T #", "= 4 =", "# T #"), middle},
		{plotOf("-9 # -9", "# 2 #", "-9 # -9"), middle, xy(0, 0), plotOf("-9 # -9", "# 3 #", "-9 # -9"), middle},
		// It can only go back.
		{plotOf("0 0"), xy(0, 0), xy(1, 0), plotOf("0 1"), xy(1, 0)},
		{plotOf("0", "8"), xy(0, 0), xy(0, 1), plotOf("0", "9"), xy(0, 1)},
		{plotOf("# 5", "3 0", "# ="), xy(1, 0), middle, plotOf("# 5", "3 1", "# ="), middle},
		// It does not go back if it can go elsewhere, however high this is.
		{plotOf("-5 0 3"), xy(1, 0), xy(0, 0), plotOf("-5 0 4"), xy(2, 0)},
		{plotOf("-9 0 9"), xy(1, 0), xy(0, 0), plotOf("-9 0 9"), xy(2, 0)},
		{plotOf("-5 0 3"), xy(1, 0), xy(1, 0), plotOf("-4 0 3"), xy(0, 0)},
		{plotOf("-5 0 3"), xy(1, 0), xy(2, 0), plotOf("-4 0 3"), xy(0, 0)},
		{plotOf("3 0 -5"), xy(1, 0), xy(2, 0), plotOf("4 0 -5"), xy(0, 0)},
		// Where it was before may be far away, which does not matter.
		{plotOf("-5 0 3 -9"), xy(1, 0), xy(3, 0), plotOf("-4 0 3 -9"), xy(0, 0)},
		{plotOf("3 0 -5 -9"), xy(1, 0), xy(3, 0), plotOf("3 0 -4 -9"), xy(2, 0)},
		// Of cells that are equally low the first one; what has a corner in common is not beside.
		{even, middle, middle, even.with(xy(1, 0), 1), xy(1, 0)},
		{even, middle, xy(1, 0), even.with(xy(0, 1), 1), xy(0, 1)},
		{even, middle, xy(0, 1), even.with(xy(1, 0), 1), xy(1, 0)},
		{even, middle, xy(2, 2), even.with(xy(1, 0), 1), xy(1, 0)},
		{even.with(xy(1, 0), 1), middle, middle, even.with(xy(1, 0), 1).with(xy(0, 1), 1), xy(0, 1)},
		{even.with(xy(1, 0), 1).with(xy(0, 1), 1), middle, middle, even.with(xy(1, 0), 1).with(xy(0, 1), 1).with(xy(2, 1), 1), xy(2, 1)},
		{even.with(xy(1, 2), -1), middle, middle, even, xy(1, 2)},
		{even.with(xy(1, 2), -1), middle, xy(1, 2), even.with(xy(1, 2), -1).with(xy(1, 0), 1), xy(1, 0)},
		{even.with(xy(1, 0), 5).with(xy(2, 1), -1), middle, xy(1, 2), even.with(xy(1, 0), 5), xy(2, 1)},
		{plotOf("-9 5 -9", "5 0 5", "-9 5 -9"), middle, middle, plotOf("-9 6 -9", "5 0 5", "-9 5 -9"), xy(1, 0)},
		// A cell at MaxLevel, just below it, and at -MaxLevel.
		{plotOf("0 9"), xy(0, 0), xy(0, 0), plotOf("0 9"), xy(1, 0)},
		{plotOf("9 9"), xy(1, 0), xy(0, 0), plotOf("9 9"), xy(0, 0)},
		{plotOf("0 8"), xy(0, 0), xy(0, 0), plotOf("0 9"), xy(1, 0)},
		{plotOf("0 -9"), xy(0, 0), xy(0, 0), plotOf("0 -8"), xy(1, 0)},
		// Its own level does not matter.
		{plotOf("-9 -9 -9").with(xy(1, 0), 9), xy(1, 0), xy(1, 0), plotOf("-8 9 -9"), xy(0, 0)},
		{plotOf("4 -9 4"), xy(1, 0), xy(1, 0), plotOf("5 -9 4"), xy(0, 0)},
	}
}

func TestStepsTold(t *testing.T) {
	for _, one := range stepsTold() {
		thrown, to, got := impl.MoleOnce(one.p.l, one.p.g, one.at, one.before)
		same(t, fmt.Sprint(one.p, one.at, one.before), []any{thrown, to, got}, []any{one.want.g, one.to, int64(impl.OK)})
	}
}

// Nights from all cells, whatever cell of grass the mole was at before.
func TestMoleOnce(t *testing.T) {
	random := rand.New(rand.NewSource(33))
	for p := range plots(300) {
		grass := grassOf(p.l)
		for _, at := range grass {
			befores := slices.DeleteFunc(slices.Clone(grass), func(before impl.Cell) bool { return !beside(at, before) })
			for _, before := range append(befores, at, anyOf(random, grass)) {
				want, wantTo := moleBy(p, at, before)
				thrown, to, got := impl.MoleOnce(p.l, p.g, at, before)
				if got != impl.OK || to != wantTo || thrown != want.g {
					t.Fatalf("%v, %v from %v: %v, %v (code %d), want %v, %v", p, at, before, plot{p.l, thrown}, to, got, want, wantTo)
				}
			}
		}
	}
}

func TestNightsTold(t *testing.T) {
	still := slices.Repeat([]impl.Cell{{}}, 61)
	for _, one := range []struct {
		p      plot
		at     impl.Cell
		nights int64
		want   plot
		cells  []impl.Cell
	}{
		{slope(), xy(0, 0), 0, slope(), walkOf(0)},
		{slope(), xy(0, 0), 1, plotOf("2 1 -1 -1"), walkOf(0, 10)},
		{slope(), xy(0, 0), 2, plotOf("2 1 0 -1"), walkOf(0, 10, 20)},
		{slope(), xy(0, 0), 6, plotOf("3 2 1 0"), walkOf(0, 10, 20, 30, 20, 10, 0)},
		{slope(), xy(3, 0), 3, plotOf("3 1 0 -1"), walkOf(30, 20, 10, 0)},
		{slope(), xy(2, 0), 2, plotOf("2 0 0 0"), walkOf(20, 30, 20)},
		// One cell: it stays, and throws up until nothing is thrown up any more.
		{plotOf("0"), xy(0, 0), 0, plotOf("0"), still[:1]},
		{plotOf("0"), xy(0, 0), 3, plotOf("3"), still[:4]},
		{plotOf("-9"), xy(0, 0), 18, plotOf("9"), still[:19]},
		{plotOf("-9"), xy(0, 0), 17, plotOf("8"), still[:18]},
		{plotOf("-9"), xy(0, 0), impl.MaxNights, plotOf("9"), still},
		{plotOf("9"), xy(0, 0), impl.MaxNights, plotOf("9"), still},
		{plotOf("0 # 0"), xy(2, 0), 2, plotOf("0 # 2"), walkOf(20, 20, 20)},
		// To and fro, and around.
		{plotOf("0 0"), xy(0, 0), 5, plotOf("2 3"), walkOf(0, 10, 0, 10, 0, 10)},
		{plotOf("9 9"), xy(0, 0), 3, plotOf("9 9"), walkOf(0, 10, 0, 10)},
		{plotOf("0", "0", "0"), xy(0, 0), 4, plotOf("1", "2", "1"), walkOf(0, 1, 2, 1, 0)},
		{plotOf("0", "0", "0"), xy(0, 1), 4, plotOf("1", "2", "1"), walkOf(1, 0, 1, 2, 1)},
		{plotOf("0 0", "0 0"), xy(0, 0), 4, plotOf("1 1", "1 1"), walkOf(0, 10, 11, 1, 0)},
		{plotOf("0 1", "0 0"), xy(0, 0), 4, plotOf("1 2", "1 1"), walkOf(0, 1, 11, 10, 0)},
		{plotOf("0 0 0", "0 # 0", "0 0 0"), xy(0, 0), 8, plotOf("1 1 1", "1 # 1", "1 1 1"), walkOf(0, 10, 20, 21, 22, 12, 2, 1, 0)},
		// It goes by what it has thrown up itself.
		{plotOf("0 0 0", "# 0 #"), xy(1, 0), 7, plotOf("2 3 1", "# 1 #"), walkOf(10, 0, 10, 20, 10, 11, 10, 0)},
	} {
		thrown, cells, got := impl.MoleNights(one.p.l, one.p.g, one.at, one.nights)
		same(t, fmt.Sprint(one.p, one.at, one.nights), []any{thrown, got}, []any{one.want.g, int64(impl.OK)})
		same(t, fmt.Sprint(one.p, one.at, one.nights), cells, one.cells)
	}
}

func TestNightOfTold(t *testing.T) {
	for _, one := range []struct {
		p        plot
		at, trap impl.Cell
		want     int64
		code     int64
	}{
		{slope(), xy(0, 0), xy(1, 0), 1, impl.OK},
		{slope(), xy(0, 0), xy(2, 0), 2, impl.OK},
		{slope(), xy(0, 0), xy(3, 0), 3, impl.OK},
		{slope(), xy(2, 0), xy(0, 0), 4, impl.OK},
		// A trap at its own cell: only nights count.
		{slope(), xy(0, 0), xy(0, 0), 6, impl.OK},
		{slope(), xy(2, 0), xy(2, 0), 2, impl.OK},
		{slope(), xy(3, 0), xy(3, 0), 6, impl.OK},
		{plotOf("0"), xy(0, 0), xy(0, 0), 1, impl.OK},
		{plotOf("9"), xy(0, 0), xy(0, 0), 1, impl.OK},
		{plotOf("0 0"), xy(1, 0), xy(1, 0), 2, impl.OK},
		{plotOf("0 0", "0 0"), xy(1, 1), xy(1, 1), 4, impl.OK},
		// A trap to which it cannot come, or never wants to.
		{plotOf("0 # 0"), xy(0, 0), xy(2, 0), 0, impl.ErrNotFound},
		{plotOf("0 = 0"), xy(2, 0), xy(0, 0), 0, impl.ErrNotFound},
		{plotOf("0 #", "T 0"), xy(0, 0), xy(1, 1), 0, impl.ErrNotFound},
		{plotOf("-9 -9 9", "-9 -9 #"), xy(0, 0), xy(2, 0), 0, impl.ErrNotFound},
		// It comes there in the last night, and just behind it.
		{plotOf("-9 -8 5", "-9 -9 #"), xy(1, 1), xy(2, 0), 60, impl.OK},
		{plotOf("-9 -8 6", "-9 -9 #"), xy(1, 1), xy(2, 0), 0, impl.ErrNotFound},
		{plotOf("-9 -9 4", "-9 -9 #"), xy(1, 0), xy(2, 0), 57, impl.OK},
		{plotOf("-9 -9 5", "-9 -9 #"), xy(1, 0), xy(2, 0), 0, impl.ErrNotFound},
		{plotOf("-9 -9 5", "-9 -9 #"), xy(0, 0), xy(2, 0), 58, impl.OK},
		// No grass.
		{plotOf("0 #"), xy(0, 0), xy(1, 0), 0, impl.ErrState},
		{plotOf("0 #"), xy(1, 0), xy(0, 0), 0, impl.ErrState},
		{plotOf("0 T"), xy(1, 0), xy(1, 0), 0, impl.ErrState},
		{plotOf("0 = 0"), xy(0, 0), xy(1, 0), 0, impl.ErrState},
	} {
		night, got := impl.NightOf(one.p.l, one.p.g, one.at, one.trap)
		same(t, fmt.Sprint(one.p, one.at, one.trap), []int64{night, got}, []int64{one.want, one.code})
	}
}

// visited is a mole with the cell at which it is most often.
type visited struct {
	p      plot
	at     impl.Cell
	nights int64
	most   impl.Cell
	times  int64
	code   int64
}

func TestVisitedTold(t *testing.T) {
	row := plotOf("0 0 0")
	for _, one := range []visited{
		{slope(), xy(3, 0), 3, xy(0, 0), 1, impl.OK},
		{slope(), xy(0, 0), 4, xy(2, 0), 2, impl.OK},
		{slope(), xy(0, 0), 5, xy(1, 0), 2, impl.OK},
		{plotOf("0"), xy(0, 0), 5, xy(0, 0), 5, impl.OK},
		{plotOf("0"), xy(0, 0), 60, xy(0, 0), 60, impl.OK},
		{plotOf("# 0"), xy(1, 0), 1, xy(1, 0), 1, impl.OK},
		// The cell at which it is at first counts only behind a night.
		{plotOf("0 0"), xy(0, 0), 1, xy(1, 0), 1, impl.OK},
		{plotOf("0 0"), xy(0, 0), 2, xy(0, 0), 1, impl.OK},
		{plotOf("0 0"), xy(0, 0), 3, xy(1, 0), 2, impl.OK},
		{plotOf("0 0"), xy(1, 0), 2, xy(0, 0), 1, impl.OK},
		{plotOf("0 0"), xy(0, 0), 60, xy(0, 0), 30, impl.OK},
		{row, xy(0, 0), 1, xy(1, 0), 1, impl.OK},
		{row, xy(0, 0), 2, xy(1, 0), 1, impl.OK},
		{row, xy(0, 0), 3, xy(1, 0), 2, impl.OK},
		{row, xy(1, 0), 1, xy(0, 0), 1, impl.OK},
		{row, xy(1, 0), 60, xy(1, 0), 30, impl.OK},
		// The first one of several is the first one of the cells, not of the nights.
		{plotOf("0", "0", "0"), xy(0, 1), 3, xy(0, 0), 1, impl.OK},
		{plotOf("0 0", "0 0"), xy(1, 1), 3, xy(0, 0), 1, impl.OK},
		{plotOf("1 0", "0 0"), xy(1, 1), 2, xy(0, 0), 1, impl.OK},
		{plotOf("0 0", "0 0"), xy(0, 0), 60, xy(0, 0), 15, impl.OK},
		{plotOf("0 0", "0 0"), xy(0, 0), 59, xy(1, 0), 15, impl.OK},
		// No nights, and what comes ahead of this.
		{slope(), xy(0, 0), 0, impl.Cell{}, 0, impl.ErrNotFound},
		{plotOf("0"), xy(0, 0), 0, impl.Cell{}, 0, impl.ErrNotFound},
		{plotOf("0 #"), xy(1, 0), 0, impl.Cell{}, 0, impl.ErrState},
		{plotOf("0 #"), xy(1, 0), 1, impl.Cell{}, 0, impl.ErrState},
		{plotOf("0 #"), xy(2, 0), 0, impl.Cell{}, 0, impl.ErrRange},
		{plotOf("0 #"), xy(1, 0), 61, impl.Cell{}, 0, impl.ErrRange},
	} {
		most, times, got := impl.MostVisited(one.p.l, one.p.g, one.at, one.nights)
		same(t, fmt.Sprint(one.p, one.at, one.nights), []any{most, times, got}, []any{one.most, one.times, one.code})
	}
}

// Several nights from all cells: the levels, the cells, the first nights at traps, and the cell that is visited most.
func TestNights(t *testing.T) {
	random := rand.New(rand.NewSource(34))
	codes := map[int64]int{}
	for p := range plots(100) {
		grass := grassOf(p.l)
		for _, at := range someOf(random, grass, min(12, len(grass))) {
			nights := anyOf(random, []int64{0, 1, 2, 3, 10, 30, 59, 60})
			want, wantCells := nightsBy(p, at, nights)
			thrown, cells, got := impl.MoleNights(p.l, p.g, at, nights)
			if got != impl.OK || thrown != want.g || !slices.Equal(cells, wantCells) {
				t.Fatalf("%v, %v: %v, %v (code %d), want %v, %v", p, at, plot{p.l, thrown}, cells, got, want, wantCells)
			}
			most, times, got := impl.MostVisited(p.l, p.g, at, nights)
			if wantMost, wantTimes := mostBy(grass, timesIn(wantCells[1:])); nights > 0 && (got != impl.OK || most != wantMost || times != wantTimes) {
				t.Fatalf("%v, %v: most %v, %d (code %d), want %v, %d", p, at, most, times, got, wantMost, wantTimes)
			}
			_, all := nightsBy(p, at, 60)
			for _, trap := range grass {
				wantNight, wantCode := int64(slices.Index(all[1:], trap)+1), int64(impl.OK)
				if wantNight == 0 {
					wantCode = impl.ErrNotFound
				}
				if night, got := impl.NightOf(p.l, p.g, at, trap); night != wantNight || got != wantCode {
					t.Fatalf("%v, %v to %v: %d (code %d), want %d (code %d)", p, at, trap, night, got, wantNight, wantCode)
				}
				codes[wantCode]++
			}
		}
	}
	if codes[impl.OK] < 1000 || codes[impl.ErrNotFound] < 1000 {
		t.Errorf("codes %v", codes)
	}
}

func TestBestTrapTold(t *testing.T) {
	for _, one := range []struct {
		p      plot
		nights int64
		trap   impl.Cell
		moles  int64
		code   int64
	}{
		{slope(), 0, xy(0, 0), 1, impl.OK},
		{slope(), 1, xy(2, 0), 3, impl.OK},
		{slope(), 2, xy(2, 0), 4, impl.OK},
		{slope(), 60, xy(0, 0), 4, impl.OK},
		{plotOf("0"), 0, xy(0, 0), 1, impl.OK},
		{plotOf("9"), 60, xy(0, 0), 1, impl.OK},
		// Without nights a mole is at its own cell alone.
		{plotOf("# = 5", "0 0 0"), 0, xy(2, 0), 1, impl.OK},
		// Several traps that are equally good.
		{plotOf("0 0"), 1, xy(0, 0), 2, impl.OK},
		{plotOf("# 0 0"), 1, xy(1, 0), 2, impl.OK},
		{plotOf("0 # 0"), 60, xy(0, 0), 1, impl.OK},
		{plotOf("0 0 # 0 0"), 60, xy(0, 0), 2, impl.OK},
		{plotOf("0 0", "0 0"), 60, xy(0, 0), 4, impl.OK},
		{plotOf("0 # 0 0"), 1, xy(2, 0), 2, impl.OK},
		{plotOf("0", "#", "0", "0"), 1, xy(0, 2), 2, impl.OK},
		{plotOf("0 0 0"), 1, xy(1, 0), 3, impl.OK},
		{plotOf("9 0 0"), 1, xy(1, 0), 3, impl.OK},
		// A mole that comes again counts once, and each one goes by itself, with the levels as they are.
		{plotOf("0 0 # 0 0 0"), 60, xy(3, 0), 3, impl.OK},
		{plotOf("# 0 0 #", "9 # # 9"), 60, xy(1, 0), 2, impl.OK},
		{plotOf("5 0 5", "# -9 #"), 1, xy(1, 0), 4, impl.OK},
		{plotOf("5 0 5", "# -9 #"), 2, xy(1, 0), 4, impl.OK},
		{plotOf("# 5 #", "5 -1 5", "# 5 #"), 1, xy(1, 1), 5, impl.OK},
		{plotOf("# 0 #", "0 0 0", "# 0 #"), 2, xy(1, 0), 5, impl.OK},
		// No grass, and what comes ahead of this.
		{plotOf("#"), 0, impl.Cell{}, 0, impl.ErrNotFound},
		{plotOf("#"), 60, impl.Cell{}, 0, impl.ErrNotFound},
		{plotOf("T =", "= #"), 1, impl.Cell{}, 0, impl.ErrNotFound},
		{plot{l: fullLawn(10, 10, 3)}, 60, impl.Cell{}, 0, impl.ErrNotFound},
		{plotOf("#"), 61, impl.Cell{}, 0, impl.ErrRange},
		{plotOf("#"), -1, impl.Cell{}, 0, impl.ErrRange},
	} {
		trap, moles, got := impl.BestTrap(one.p.l, one.p.g, one.nights)
		same(t, fmt.Sprint(one.p, one.nights), []any{trap, moles, got}, []any{one.trap, one.moles, one.code})
	}
}

func TestBestTrap(t *testing.T) {
	random := rand.New(rand.NewSource(35))
	for p := range plots(100) {
		if len(grassOf(p.l)) == 0 {
			continue
		}
		nights := anyOf(random, []int64{0, 1, 2, 3, 5, 10, 30, 60})
		wantTrap, wantMoles := trapBy(p, nights)
		trap, moles, got := impl.BestTrap(p.l, p.g, nights)
		if got != impl.OK || trap != wantTrap || moles != wantMoles {
			t.Fatalf("%v, %d: %v, %d (code %d), want %v, %d", p, nights, trap, moles, got, wantTrap, wantMoles)
		}
	}
}

func TestMirrorLevelsTold(t *testing.T) {
	for _, one := range []struct {
		p, want plot
		code    int64
	}{
		{slope(), plotOf("-1 -1 0 2"), impl.OK},
		{plotOf("9"), plotOf("9"), impl.OK},
		{plotOf("#"), plotOf("#"), impl.OK},
		{plotOf("1", "-2", "3"), plotOf("1", "-2", "3"), impl.OK},
		{plotOf("1 2 3", "4 5 6"), plotOf("3 2 1", "6 5 4"), impl.OK},
		{plotOf("9 -9"), plotOf("-9 9"), impl.OK},
		{plotOf("1 # 2"), plotOf("2 # 1"), impl.OK},
		{plotOf("0 #"), plotOf("0 #"), impl.OK},
		{plotOf("0 1 ="), plotOf("0 1 ="), impl.OK},
		{plotOf("0 1 2 T"), plotOf("0 2 1 T"), impl.OK},
		{plotOf("# #", "1 2"), plotOf("# #", "2 1"), impl.OK},
		// Levels that would not be valid.
		{plotOf("1 #"), plot{}, impl.ErrState},
		{plotOf("# -1"), plot{}, impl.ErrState},
		{plotOf("1 0 ="), plot{}, impl.ErrState},
		{plotOf("1 T"), plot{}, impl.ErrState},
		{plotOf("0 0 0", "0 0 #", "0 0 0").with(xy(0, 1), 9), plot{}, impl.ErrState},
		{plotOf("1 2", "3 4", "5 #"), plot{}, impl.ErrState},
	} {
		mirrored, got := impl.MirrorLevels(one.p.l, one.p.g)
		same(t, one.p.String(), []any{mirrored, got}, []any{one.want.g, one.code})
	}
}

func TestMirrorLevels(t *testing.T) {
	mirrors := 0
	for p := range plots(400) {
		// On a lawn that is as its mirror all levels can be mirrored.
		both := p
		for _, at := range cellsOf(p.l) {
			west := impl.Cell{X: min(at.X, p.l.Wide-1-at.X), Y: at.Y}
			if both.l = withCell(both.l, at, uint8(kindOf(p.l, west))); !hasGrass(p.l, west) || !hasGrass(p.l, at) {
				both = both.with(at, 0)
			}
		}
		for _, one := range []plot{p, both} {
			want, wantCode := mirrorBy(one)
			mirrored, got := impl.MirrorLevels(one.l, one.g)
			if mirrored != want.g || got != wantCode {
				t.Fatalf("%v: %v (code %d), want %v (code %d)", one, mirrored, got, want, wantCode)
			}
			if got == impl.OK {
				back, backCode := impl.MirrorLevels(one.l, mirrored)
				same(t, one.String(), []any{back, backCode}, []any{one.g, int64(impl.OK)})
				mirrors++
			}
		}
		if _, got := impl.MirrorLevels(both.l, both.g); got != impl.OK {
			t.Fatalf("%v: code %d", both, got)
		}
	}
	if mirrors < 1000 {
		t.Errorf("only %d are mirrored", mirrors)
	}
}

func TestLevelsTextTold(t *testing.T) {
	for text, p := range map[string]plot{
		"2 0 -1 -1\n":              slope(),
		"0\n":                      plotOf("0"),
		"9\n":                      plotOf("9"),
		"-9\n":                     plotOf("-9"),
		"1\n-2\n3\n":               plotOf("1", "-2", "3"),
		"1 -2\n0 3\n":              plotOf("1 -2", "# 3"),
		"0 0 0\n":                  plotOf("# T ="),
		"0 9 0\n-9 0 0\n":          plotOf("T 9 0", "-9 = #"),
		"-1 -2 -3 -4 -5 -6 -7\n":   plotOf("-1 -2 -3 -4 -5 -6 -7"),
		"1 2 3 4 5 6 7 8 9 0\n":    plotOf("1 2 3 4 5 6 7 8 9 0"),
		"0\n0\n0\n":                plotOf("0", "=", "0"),
		"0 -1\n0 0\n0 0\n":         plotOf("0 -1", "0 #", "0 0"),
		"8 -8\n-8 8\n":             plotOf("8 -8", "-8 8"),
		"0 0 0 0 0 0 0 0 0 -9\n":   plotOf("# # # # # # # # # -9"),
		"5 0 0 0 0 0 0 0 0 0\n":    plotOf("5 T T T T T T T T T"),
		"0\n0\n0\n0\n0\n0\n0\n6\n": plotOf("0", "0", "0", "0", "#", "0", "0", "6"),
	} {
		same(t, text, impl.LevelsText(p.l, p.g), text)
		read, got := impl.ReadLevels(p.l, text)
		same(t, text, []any{read, got}, []any{p.g, int64(impl.OK)})
	}
}

func TestLevelsText(t *testing.T) {
	for p := range plots(300) {
		text := levelsTextBy(p)
		same(t, "text", impl.LevelsText(p.l, p.g), text)
		read, got := impl.ReadLevels(p.l, text)
		if read != p.g || got != impl.OK {
			t.Fatalf("%q: %v (code %d)", text, read, got)
		}
		// A text that is not just this one is none.
		for _, other := range []string{text + "\n", "\n" + text, text[:len(text)-1], text + "0", text + text, text[2:], " " + text, "-" + text, "0" + text, text[:len(text)-1] + " \n", strings.ReplaceAll(text, "\n", "\r\n")} {
			if reread, got := impl.ReadLevels(p.l, other); got == impl.OK && levelsTextBy(plot{p.l, reread}) != other {
				t.Fatalf("%q is no text of %q", other, impl.LawnText(p.l))
			}
		}
	}
	for p := range plots(8) {
		for _, g := range badLevels(p) {
			same(t, "not valid", impl.LevelsText(p.l, g), "")
		}
	}
	for name, l := range badLawns() {
		same(t, name, impl.LevelsText(l, impl.Levels{}), "")
		same(t, name, impl.LevelsText(l, slope().g), "")
	}
}

func TestReadLevelsSyntax(t *testing.T) {
	for _, text := range noLevelsTexts() {
		read, got := impl.ReadLevels(thicket(), text)
		if got != impl.ErrSyntax || read != (impl.Levels{}) {
			t.Errorf("%.60q: %v (code %d)", text, read, got)
		}
		for name, l := range badLawns() {
			if read, got := impl.ReadLevels(l, text); got != impl.ErrInvalid || read != (impl.Levels{}) {
				t.Fatalf("%s, %.60q: %v (code %d)", name, text, read, got)
			}
		}
	}
	// What is the text of levels of one lawn is not that of a lawn with another size, or with less grass.
	text := "1 -2\n3 4\n"
	for _, l := range []impl.Lawn{lawnOf("."), lawnOf(".."), lawnOf(".", "."), lawnOf("..", "..", ".."), lawnOf("...", "..."), lawnOf("..", "#."), lawnOf("..", ".="), lawnOf("T.", ".."), fullLawn(10, 10, 0)} {
		_, got := impl.ReadLevels(l, text)
		code(t, impl.LawnText(l), got, impl.ErrSyntax)
	}
}

// All texts of up to five of these bytes, on lawns with one cell and with two.
func TestReadLevelsEveryText(t *testing.T) {
	const bytes = "0189 -+\nx"
	for _, l := range []impl.Lawn{lawnOf("."), lawnOf("#"), lawnOf(".."), lawnOf(".="), lawnOf(".", "."), lawnOf("T", ".")} {
		want := map[string]impl.Levels{}
		for first := -9; first <= 9; first++ {
			for second := -9; second <= 9; second++ {
				p := plot{l: l}.with(xy(0, 0), first).with(xy(l.Wide-1, l.High-1), second)
				if p.isSound() {
					want[levelsTextBy(p)] = p.g
				}
			}
		}
		found := 0
		var add func(text string)
		add = func(text string) {
			g, is := want[text]
			wantCode := int64(impl.ErrSyntax)
			if is {
				wantCode = impl.OK
				found++
			}
			if read, got := impl.ReadLevels(l, text); read != g || got != wantCode {
				t.Fatalf("%q on %q: %v (code %d), want %v (code %d)", text, impl.LawnText(l), read, got, g, wantCode)
			}
			if len(text) == 5 {
				return
			}
			for i := range len(bytes) {
				add(text + bytes[i:i+1])
			}
		}
		add("")
		if found == 0 {
			t.Errorf("no text of %q", impl.LawnText(l))
		}
	}
}

// The document's example of chapter 6.
func TestExample6(t *testing.T) {
	p := slope()
	sum, _ := impl.SoilSum(p.l, p.g)
	hauls, steps, _ := impl.LeastHaul(p.l, p.g)
	same(t, "sum and steps", []int64{sum, steps}, []int64{0, 5})
	same(t, "hauls", hauls, []impl.Haul{haulOf(0, 2, 1), haulOf(0, 3, 1)})
	rolled, gone, _ := impl.RollRow(p.l, p.g, 0)
	same(t, "rolled", []any{rolled, gone}, []any{plotOf("1 0 0 -1").g, int64(2)})
	even, moved, _ := impl.EvenLevels(p.l, p.g)
	same(t, "even", []any{even, moved}, []any{impl.Levels{}, int64(2)})
	_, cells, _ := impl.MoleNights(p.l, p.g, impl.Cell{}, 2)
	same(t, "mole", cells, walkOf(0, 10, 20))
}
