package tests

import (
	"math/rand"
	"slices"
	"strings"
	"testing"

	"loop.example/g01405/impl"
)

func TestMowingLimits(t *testing.T) {
	same(t, "limits", []int64{impl.MaxWay, impl.MaxMown, impl.MaxOpen}, []int64{200, 9, 16})
}

// A way is right if all its cells are open, as the first one is.
func TestCheckWay(t *testing.T) {
	for _, l := range []impl.Lawn{mowing(), example(), lawnOf("."), lawnOf("#"), lawnOf("=T", ".#", "=="), lawnOf(".", "=", "T")} {
		for _, from := range cellsOf(l) {
			for way := range everyWay(5) {
				_, want := cellsAlong(l, from, way)
				right, got := impl.CheckWay(l, from, way)
				code(t, "check", got, impl.OK)
				same(t, "right "+way, right, want)
			}
		}
	}
	for one := range rides() {
		right, got := impl.CheckWay(one.lawn, one.from, one.way)
		code(t, "right", got, impl.OK)
		same(t, "right", right, true)
	}
}

// A way that leaves the lawn is not right, even if it came back.
func TestCheckWayOutside(t *testing.T) {
	for _, way := range []string{"NS", "WE", "EW", "SN", "NNNN", strings.Repeat("E", 200), strings.Repeat("N", 200)} {
		right, got := impl.CheckWay(lawnOf("."), impl.Cell{}, way)
		code(t, way, got, impl.OK)
		same(t, way, right, false)
	}
	l := fullLawn(10, 10, impl.LaGrass)
	for _, way := range []string{strings.Repeat("E", 10), strings.Repeat("S", 10), "EEEEEEEEESSSSSSSSSE", "W", "N"} {
		right, _ := impl.CheckWay(l, impl.Cell{}, way)
		same(t, way, right, false)
	}
	right, _ := impl.CheckWay(l, impl.Cell{}, strings.Repeat("E", 9)+strings.Repeat("S", 9))
	same(t, "to the last cell", right, true)
}

// A first cell that is not open makes even the empty way wrong.
func TestFirstNotOpen(t *testing.T) {
	l := lawnOf("#.", "T=")
	for _, from := range []impl.Cell{{}, {Y: 1}} {
		for _, way := range []string{"", "E", "EW", "ES"} {
			right, got := impl.CheckWay(l, from, way)
			code(t, "check", got, impl.OK)
			same(t, "right", right, false)
			for _, one := range rideCalls(ride{l, from, way}) {
				if one.name != "CheckWay" {
					code(t, one.name, checkCall(t, one), impl.ErrState)
				}
			}
		}
	}
}

// The functions tell of a right way what its cells tell, one by one.
func TestAlongWays(t *testing.T) {
	for one := range rides() {
		checkAlong(t, one)
	}
	for _, l := range []impl.Lawn{mowing(), lawnOf(".=", "#."), lawnOf("=")} {
		for _, from := range openIn(l) {
			for way := range everyWay(6) {
				if _, right := cellsAlong(l, from, way); right {
					checkAlong(t, ride{l, from, way})
				}
			}
		}
	}
}

func checkAlong(t *testing.T, one ride) {
	t.Helper()
	l, from, way := one.lawn, one.from, one.way
	list, _ := cellsAlong(l, from, way)
	end, got := impl.EndOf(l, from, way)
	code(t, "EndOf", got, impl.OK)
	same(t, "EndOf", end, list[len(list)-1])
	var mown, left []impl.Cell
	var times []int64
	for _, at := range cellsOf(l) {
		count := int64(0)
		for _, to := range list {
			if to == at && kindOf(l, at) == impl.LaGrass {
				count++
			}
		}
		if times = append(times, count); count > 0 {
			mown = append(mown, at)
		} else if kindOf(l, at) == impl.LaGrass {
			left = append(left, at)
		}
	}
	gotMown, got := impl.MownBy(l, from, way)
	code(t, "MownBy", got, impl.OK)
	same(t, "MownBy", gotMown, mown)
	gotLeft, got := impl.LeftBy(l, from, way)
	code(t, "LeftBy", got, impl.OK)
	same(t, "LeftBy", gotLeft, left)
	gotTimes, got := impl.MownTimes(l, from, way)
	code(t, "MownTimes", got, impl.OK)
	same(t, "MownTimes", gotTimes, times)
	whole, got := impl.IsWhole(l, from, way)
	code(t, "IsWhole", got, impl.OK)
	same(t, "IsWhole", whole, len(left) == 0)
	checkFirstWhole(t, one, whole)
	rows, got := impl.StripesBy(l, from, way)
	code(t, "StripesBy", got, impl.OK)
	same(t, "StripesBy", rows, stripesOf(one))
}

// checkFirstWhole compares with the beginnings of the way.
func checkFirstWhole(t *testing.T, one ride, whole bool) {
	t.Helper()
	enough, got := impl.FirstWhole(one.lawn, one.from, one.way)
	if !whole {
		code(t, "FirstWhole", got, impl.ErrNotFound)
		same(t, "FirstWhole", enough, int64(0))
		return
	}
	code(t, "FirstWhole", got, impl.OK)
	want := 0
	for len(grassLeft(one.lawn, one.from, one.way[:want])) > 0 {
		want++
	}
	same(t, "FirstWhole", enough, int64(want))
}

// grassLeft lists all cells of grass that are no cells of a way.
func grassLeft(l impl.Lawn, from impl.Cell, way string) []impl.Cell {
	list, _ := cellsAlong(l, from, way)
	return slices.DeleteFunc(grassOf(l), func(at impl.Cell) bool { return slices.Contains(list, at) })
}

// stripesOf makes the picture of a way, cell by cell, looking for its last letter from the end.
func stripesOf(one ride) []string {
	list, _ := cellsAlong(one.lawn, one.from, one.way)
	var rows []string
	for _, at := range cellsOf(one.lawn) {
		if at.X == 0 {
			rows = append(rows, "")
		}
		letter := "."
		for i := len(list) - 1; i >= 0 && letter == "." && kindOf(one.lawn, at) == impl.LaGrass; i-- {
			if list[i] == at {
				letter = ("o" + one.way)[i : i+1]
			}
		}
		rows[at.Y] += letter
	}
	return rows
}

// A cell is counted each time that the way comes to it, the first one at the beginning too.
func TestMownTimesTold(t *testing.T) {
	for _, one := range []struct {
		rows  []string
		from  impl.Cell
		way   string
		times []int64
		mown  []impl.Cell
	}{
		{[]string{"."}, impl.Cell{}, "", []int64{1}, []impl.Cell{{}}},
		{[]string{"="}, impl.Cell{}, "", []int64{0}, nil},
		{[]string{"..", "##"}, impl.Cell{}, "EWEWE", []int64{3, 3, 0, 0}, []impl.Cell{{}, {X: 1}}},
		{[]string{".=.", "##."}, impl.Cell{X: 2, Y: 1}, "NWWEES", []int64{1, 0, 2, 0, 0, 2}, []impl.Cell{{}, {X: 2}, {X: 2, Y: 1}}},
		{[]string{"=.", ".."}, impl.Cell{}, "ESWN", []int64{0, 1, 1, 1}, []impl.Cell{{X: 1}, {Y: 1}, {X: 1, Y: 1}}},
	} {
		times, got := impl.MownTimes(lawnOf(one.rows...), one.from, one.way)
		code(t, one.way, got, impl.OK)
		same(t, one.way, times, one.times)
		mown, got := impl.MownBy(lawnOf(one.rows...), one.from, one.way)
		code(t, one.way, got, impl.OK)
		same(t, one.way, mown, one.mown)
	}
	times, _ := impl.MownTimes(lawnOf(".."), impl.Cell{}, strings.Repeat("EW", 100))
	same(t, "greatest", times, []int64{101, 100})
}

func TestWholeTold(t *testing.T) {
	for _, one := range []struct {
		rows   []string
		from   impl.Cell
		way    string
		enough int64
		code   int64
	}{
		{[]string{"."}, impl.Cell{}, "", 0, impl.OK},
		{[]string{"=", "#"}, impl.Cell{}, "", 0, impl.OK},
		{[]string{"=="}, impl.Cell{}, "EWE", 0, impl.OK},
		{[]string{".="}, impl.Cell{}, "EWE", 0, impl.OK},
		{[]string{"=."}, impl.Cell{}, "", 0, impl.ErrNotFound},
		{[]string{"=."}, impl.Cell{}, "E", 1, impl.OK},
		{[]string{"=."}, impl.Cell{}, "EWEW", 1, impl.OK},
		{[]string{"...", ".#."}, impl.Cell{}, "SNEES", 5, impl.OK},
		{[]string{"...", ".#."}, impl.Cell{}, "SNEESNWW", 5, impl.OK},
		{[]string{"...", ".#."}, impl.Cell{}, "EESNWWS", 7, impl.OK},
		{[]string{"...", ".#."}, impl.Cell{}, "EESNWW", 0, impl.ErrNotFound},
		{[]string{".#."}, impl.Cell{}, "", 0, impl.ErrNotFound},
	} {
		enough, got := impl.FirstWhole(lawnOf(one.rows...), one.from, one.way)
		code(t, one.way, got, one.code)
		same(t, one.way, enough, one.enough)
		whole, got := impl.IsWhole(lawnOf(one.rows...), one.from, one.way)
		code(t, one.way, got, impl.OK)
		same(t, one.way, whole, one.code == impl.OK)
	}
}

func TestStripesTold(t *testing.T) {
	for _, one := range []struct {
		rows []string
		from impl.Cell
		way  string
		want []string
	}{
		{[]string{"."}, impl.Cell{}, "", []string{"o"}},
		{[]string{"="}, impl.Cell{}, "", []string{"."}},
		{[]string{"..", ".."}, impl.Cell{X: 1, Y: 1}, "", []string{"..", ".o"}},
		{[]string{"..", ".."}, impl.Cell{}, "ESWN", []string{"NE", "WS"}},
		{[]string{"..", ".."}, impl.Cell{}, "ESW", []string{"oE", "WS"}},
		{[]string{".=.", "T#."}, impl.Cell{}, "EES", []string{"o.E", "..S"}},
		{[]string{"=..", "T#."}, impl.Cell{}, "EESN", []string{".EN", "..S"}},
		{[]string{"...", ".#."}, impl.Cell{}, "SNEES", []string{"NEE", "S.S"}},
		{[]string{"...."}, impl.Cell{X: 1}, "EEWW", []string{".WWE"}},
		{[]string{".", "."}, impl.Cell{Y: 1}, "N", []string{"N", "o"}},
	} {
		rows, got := impl.StripesBy(lawnOf(one.rows...), one.from, one.way)
		code(t, one.way, got, impl.OK)
		same(t, one.way, rows, one.want)
	}
}

func TestTurnsOf(t *testing.T) {
	for way, want := range map[string]int64{"": 0, "N": 0, "EES": 1, "SNEES": 3, "NNNN": 0, "NSNS": 3, "NWES": 3, "WWEE": 1, "ENE": 2} {
		turns, got := impl.TurnsOf(way)
		code(t, way, got, impl.OK)
		same(t, way, turns, want)
	}
	for way := range everyWay(5) {
		turns, _ := impl.TurnsOf(way)
		same(t, way, turns, turnsIn(way))
	}
	turns, got := impl.TurnsOf(strings.Repeat("NE", 100))
	code(t, "greatest", got, impl.OK)
	same(t, "greatest", turns, int64(199))
}

func TestBackAndForth(t *testing.T) {
	for _, one := range []struct {
		wide, high int8
		want       string
	}{
		{1, 1, ""}, {2, 1, "E"}, {1, 2, "S"}, {3, 2, "EESWW"}, {2, 3, "ESWSE"}, {1, 10, "SSSSSSSSS"}, {10, 1, "EEEEEEEEE"}, {2, 4, "ESWSESW"},
	} {
		way, got := impl.BackAndForth(fullLawn(one.wide, one.high, impl.LaGrass))
		code(t, "told", got, impl.OK)
		same(t, "told", way, one.want)
	}
	for wide := range int8(10) {
		for high := range int8(10) {
			l := fullLawn(wide+1, high+1, impl.LaGrass)
			way, got := impl.BackAndForth(l)
			code(t, "back and forth", got, impl.OK)
			same(t, "long", len(way), int(l.Wide)*int(l.High)-1)
			enough, got := impl.FirstWhole(l, impl.Cell{}, way)
			code(t, "whole", got, impl.OK)
			same(t, "each cell once", int(enough), len(way))
			end, _ := impl.EndOf(l, impl.Cell{}, way)
			want := impl.Cell{Y: high}
			if high%2 == 0 {
				want.X = wide
			}
			same(t, "end", end, want)
			turns, _ := impl.TurnsOf(way)
			if wide > 0 {
				same(t, "turns", turns, 2*int64(high))
			} else {
				same(t, "turns", turns, int64(0))
			}
		}
	}
}

// Each cell that is no grass is an error, wherever it is.
func TestBackAndForthState(t *testing.T) {
	for _, size := range [][2]int8{{1, 1}, {3, 2}, {10, 10}} {
		for _, at := range cellsOf(impl.Lawn{Wide: size[0], High: size[1]}) {
			for kind := uint8(1); kind < 4; kind++ {
				l := fullLawn(size[0], size[1], impl.LaGrass)
				l.Cells[at.Y][at.X] = kind
				way, got := impl.BackAndForth(l)
				code(t, "no grass", got, impl.ErrState)
				same(t, "no grass", way, "")
			}
		}
	}
}

func TestReverseWay(t *testing.T) {
	for way, want := range map[string]string{"": "", "N": "S", "S": "N", "W": "E", "E": "W", "EES": "NWW", "SNEES": "NWWSN", "NWES": "NWES"} {
		back, got := impl.ReverseWay(way)
		code(t, way, got, impl.OK)
		same(t, way, back, want)
	}
	for way := range everyWay(5) {
		back, _ := impl.ReverseWay(way)
		again, got := impl.ReverseWay(back)
		code(t, way, got, impl.OK)
		same(t, way, again, way)
	}
	back, got := impl.ReverseWay(strings.Repeat("N", 199) + "E")
	code(t, "greatest", got, impl.OK)
	same(t, "greatest", back, "W"+strings.Repeat("S", 199))
}

// loose takes out the first two opposite letters, again and again, as the document says it.
func loose(way string) string {
	for i := 0; i+1 < len(way); i++ {
		if slices.Contains([]string{"NS", "SN", "WE", "EW"}, way[i:i+2]) {
			return loose(way[:i] + way[i+2:])
		}
	}
	return way
}

func TestLooseWay(t *testing.T) {
	for way, want := range map[string]string{"": "", "NS": "", "SN": "", "WE": "", "EW": "", "SNEES": "EES", "NSN": "N", "NESWE": "NES", "NEWS": "", "WNSEE": "E", "NNSS": "", "NESW": "NESW", "NN": "NN", "NW": "NW"} {
		got, gotCode := impl.LooseWay(way)
		code(t, way, gotCode, impl.OK)
		same(t, way, got, want)
	}
	for way := range everyWay(7) {
		got, gotCode := impl.LooseWay(way)
		if want := loose(way); got != want || gotCode != impl.OK {
			t.Fatalf("%s: got %s with code %d, want %s", way, got, gotCode, want)
		}
	}
	random := rand.New(rand.NewSource(4))
	for range 200 {
		way := randomWay(random, fullLawn(10, 10, 0), impl.Cell{X: 5, Y: 5}, 200)
		got, _ := impl.LooseWay(way)
		same(t, way, got, loose(way))
	}
	none, _ := impl.LooseWay(strings.Repeat("N", 100) + strings.Repeat("S", 100))
	same(t, "all", none, "")
}

// A loosened way is right, too, and ends at the same cell.
func TestLooseWayEnds(t *testing.T) {
	for one := range rides() {
		way, _ := impl.LooseWay(one.way)
		end, got := impl.EndOf(one.lawn, one.from, way)
		code(t, "loosened", got, impl.OK)
		list, _ := cellsAlong(one.lawn, one.from, one.way)
		same(t, "loosened", end, list[len(list)-1])
	}
}

func TestHomeFromTold(t *testing.T) {
	for _, one := range []struct {
		rows       []string
		from, home impl.Cell
		way        string
		code       int64
	}{
		{[]string{"."}, impl.Cell{}, impl.Cell{}, "", impl.OK},
		{[]string{"=.", ".."}, impl.Cell{X: 1, Y: 1}, impl.Cell{X: 1, Y: 1}, "", impl.OK},
		{[]string{"...", ".#."}, impl.Cell{X: 2, Y: 1}, impl.Cell{Y: 1}, "NWWS", impl.OK},
		{[]string{"..", ".."}, impl.Cell{}, impl.Cell{X: 1, Y: 1}, "ES", impl.OK},
		{[]string{"..", ".."}, impl.Cell{X: 1}, impl.Cell{Y: 1}, "WS", impl.OK},
		{[]string{"..", ".."}, impl.Cell{X: 1, Y: 1}, impl.Cell{}, "NW", impl.OK},
		{[]string{"..", ".."}, impl.Cell{Y: 1}, impl.Cell{X: 1}, "NE", impl.OK},
		{[]string{"===", "=T=", "==="}, impl.Cell{X: 1}, impl.Cell{X: 1, Y: 2}, "WSSE", impl.OK},
		{[]string{"===", "=T=", "==="}, impl.Cell{Y: 1}, impl.Cell{X: 2, Y: 1}, "NEES", impl.OK},
		{[]string{".#."}, impl.Cell{}, impl.Cell{X: 2}, "", impl.ErrNotFound},
		{[]string{".T", "#."}, impl.Cell{}, impl.Cell{X: 1, Y: 1}, "", impl.ErrNotFound},
		{[]string{".#."}, impl.Cell{}, impl.Cell{X: 1}, "", impl.ErrState},
		{[]string{".#."}, impl.Cell{X: 1}, impl.Cell{}, "", impl.ErrState},
		{[]string{".#."}, impl.Cell{X: 1}, impl.Cell{X: 1}, "", impl.ErrState},
	} {
		way, got := impl.HomeFrom(lawnOf(one.rows...), one.from, one.home)
		code(t, strings.Join(one.rows, "/"), got, one.code)
		same(t, strings.Join(one.rows, "/"), way, one.way)
	}
	way, _ := impl.HomeFrom(fullLawn(10, 10, 0), impl.Cell{}, impl.Cell{X: 9, Y: 9})
	same(t, "greatest", way, strings.Repeat("E", 9)+strings.Repeat("S", 9))
	snake := lawnOf("..........", "#########.", "..........", ".#########", "..........", "#########.", "..........", ".#########", "..........", "#########=")
	way, _ = impl.HomeFrom(snake, impl.Cell{X: 9, Y: 9}, impl.Cell{})
	same(t, "snake", way, "NWWWWWWWWWNNEEEEEEEEENNWWWWWWWWWNNEEEEEEEEENNWWWWWWWWW")
}

// The way home has as many letters as there are steps, and each one is the first that comes nearer.
func TestHomeFrom(t *testing.T) {
	for l := range mixedLawns(20) {
		steps := stepsBetween(l)
		for _, from := range openIn(l) {
			for _, home := range openIn(l) {
				way, got := impl.HomeFrom(l, from, home)
				if steps[[2]impl.Cell{from, home}] >= farthest {
					code(t, "apart", got, impl.ErrNotFound)
					same(t, "apart", way, "")
					continue
				}
				code(t, "home", got, impl.OK)
				want := ""
				for at := from; at != home; at = gone(at, want[len(want)-1]) {
					want += letters[nearer(l, steps, at, home):][:1]
				}
				same(t, "home", way, want)
			}
		}
	}
}

// nearer returns the number of the first letter that leads one step nearer to home.
func nearer(l impl.Lawn, steps map[[2]impl.Cell]int64, at, home impl.Cell) int {
	for i := range 4 {
		next := gone(at, letters[i])
		if hasOpen(l, next) && steps[[2]impl.Cell{next, home}] == steps[[2]impl.Cell{at, home}]-1 {
			return i
		}
	}
	panic("no cell is nearer")
}
