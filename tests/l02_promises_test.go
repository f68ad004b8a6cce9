package tests

import (
	"fmt"
	"slices"
	"strings"
	"testing"

	"loop.example/g01405/impl"
)

// rideCalls returns calls of all functions with a lawn and a way.
func rideCalls(one ride) []call {
	l, from, way := one.lawn, one.from, one.way
	return []call{
		{"CheckWay", func() ([]any, int64) { r, c := impl.CheckWay(l, from, way); return []any{r}, c }},
		{"EndOf", func() ([]any, int64) { r, c := impl.EndOf(l, from, way); return []any{r}, c }},
		{"MownBy", func() ([]any, int64) { r, c := impl.MownBy(l, from, way); return []any{r}, c }},
		{"MownTimes", func() ([]any, int64) { r, c := impl.MownTimes(l, from, way); return []any{r}, c }},
		{"LeftBy", func() ([]any, int64) { r, c := impl.LeftBy(l, from, way); return []any{r}, c }},
		{"IsWhole", func() ([]any, int64) { r, c := impl.IsWhole(l, from, way); return []any{r}, c }},
		{"FirstWhole", func() ([]any, int64) { r, c := impl.FirstWhole(l, from, way); return []any{r}, c }},
		{"StripesBy", func() ([]any, int64) { r, c := impl.StripesBy(l, from, way); return []any{r}, c }},
	}
}

// bestCalls returns calls of all functions that look for a way from a cell.
func bestCalls(l impl.Lawn, from, home impl.Cell) []call {
	return []call{
		{"ShortestWhole", func() ([]any, int64) { r, c := impl.ShortestWhole(l, from); return []any{r}, c }},
		{"FewestTurns", func() ([]any, int64) { r, c := impl.FewestTurns(l, from); return []any{r}, c }},
		{"HomeFrom", func() ([]any, int64) { r, c := impl.HomeFrom(l, from, home); return []any{r}, c }},
	}
}

// wayCalls returns calls of all functions with a way alone.
func wayCalls(way string) []call {
	return []call{
		{"TurnsOf", func() ([]any, int64) { r, c := impl.TurnsOf(way); return []any{r}, c }},
		{"ReverseWay", func() ([]any, int64) { r, c := impl.ReverseWay(way); return []any{r}, c }},
		{"LooseWay", func() ([]any, int64) { r, c := impl.LooseWay(way); return []any{r}, c }},
	}
}

// forthCall returns the call of the function with a lawn alone.
func forthCall(l impl.Lawn) call {
	return call{"BackAndForth", func() ([]any, int64) { r, c := impl.BackAndForth(l); return []any{r}, c }}
}

// noWays returns ways with a letter that is none, one of them with as many bytes as a way may have.
func noWays() []string {
	list := []string{"e", "n", "EEx", "xEE", "EE ", "E\n", "\x00", "E\x00", "NE,", "o", ".", "Ñ", "É", "\u0426", "E\xff", "\x80", "EE\xc3", "\xce", "\xd3", "\U0001f33f", strings.Repeat("E", 199) + "e", strings.Repeat("é", 100)}
	for b := range 256 {
		if !strings.Contains(letters, string([]byte{byte(b)})) {
			list = append(list, string([]byte{byte(b)}))
		}
	}
	return list
}

// longWays returns ways with too many letters, or with too many bytes that are none.
func longWays() []string {
	return []string{strings.Repeat("E", 201), strings.Repeat("EW", 101), strings.Repeat("e", 201), strings.Repeat("E", 200) + "x", "x" + strings.Repeat("N", 200), strings.Repeat("é", 101), strings.Repeat("\xff", 201), strings.Repeat("N", 256), strings.Repeat("S", 1000000)}
}

// P1 (chapter 2): every function returns for all arguments, and the same each time; no lawn is modified.
func TestPromise1Mowing(t *testing.T) {
	lawns := []impl.Lawn{mowing(), lawnOf("."), lawnOf("#"), lawnOf(".#.", "#.#"), fullLawn(3, 3, 0), fullLawn(10, 10, 0), fullLawn(10, 10, 3), fullLawn(10, 10, 1)}
	for l := range mixedLawns(12) {
		lawns = append(lawns, l)
	}
	for _, l := range badLawns() {
		lawns = append(lawns, l)
	}
	ways := append(longWays(), noWays()[:22]...)
	ways = append(ways, "", "E", "S", "ES", "SNEES", strings.Repeat("EW", 100), strings.Repeat("N", 200))
	for _, l := range lawns {
		kept := l
		cells := append(noCells(l), impl.Cell{}, impl.Cell{X: 1}, impl.Cell{X: 1, Y: 1})
		for i, from := range cells {
			for _, way := range ways {
				for _, one := range rideCalls(ride{l, from, way}) {
					checkCall(t, one)
				}
			}
			for _, one := range bestCalls(l, from, cells[(i+1)%len(cells)]) {
				checkCall(t, one)
			}
		}
		checkCall(t, forthCall(l))
		same(t, "lawn", l, kept)
	}
	for _, way := range ways {
		for _, one := range wayCalls(way) {
			checkCall(t, one)
		}
	}
}

// Of several errors the one that is told first comes first: of the lawn, the cell, the limit, the letters, and then the way.
func TestMowingErrorOrder(t *testing.T) {
	wants := []int64{impl.ErrInvalid, impl.ErrRange, impl.ErrLimit, impl.ErrSyntax, impl.ErrState, impl.ErrNotFound}
	for wrong := range 1 << 6 {
		has := func(i int) bool { return wrong>>i&1 == 1 }
		one := ride{lawn: lawnOf("..="), way: "EE"}
		if has(5) {
			one.lawn = lawnOf("..=", "#.#", ".##")
		}
		if has(4) {
			one.way = "SN"
		}
		if has(3) {
			one.way += "\xe5"
		}
		if has(2) {
			one.way += strings.Repeat("W", 201-len(one.way))
		}
		if has(1) {
			one.from = impl.Cell{X: 3}
		}
		if has(0) {
			one.lawn.Cells[9][9] = 1
		}
		want := int64(impl.OK)
		for i := len(wants) - 1; i >= 0; i-- {
			if has(i) {
				want = wants[i]
			}
		}
		for _, each := range rideCalls(one) {
			wantHere := want
			if want == impl.ErrNotFound && each.name != "FirstWhole" || want == impl.ErrState && each.name == "CheckWay" {
				wantHere = impl.OK
			}
			code(t, fmt.Sprintf("%s, wrong %06b", each.name, wrong), checkCall(t, each), wantHere)
		}
	}
}

// P1, conventions: a lawn that is not valid is told before any other error.
func TestMowingInvalidFirst(t *testing.T) {
	for name, l := range badLawns() {
		for _, from := range append(noCells(l), impl.Cell{}) {
			for _, way := range []string{"", "E", "x", strings.Repeat("E", 201)} {
				for _, one := range rideCalls(ride{l, from, way}) {
					code(t, one.name+", "+name, checkCall(t, one), impl.ErrInvalid)
				}
			}
			for _, one := range bestCalls(l, from, impl.Cell{X: -1}) {
				code(t, one.name+", "+name, checkCall(t, one), impl.ErrInvalid)
			}
		}
		code(t, "BackAndForth, "+name, checkCall(t, forthCall(l)), impl.ErrInvalid)
	}
}

// P1: a cell that a lawn has not is told before what is told of ways and of open cells.
func TestMowingRange(t *testing.T) {
	for _, l := range []impl.Lawn{mowing(), lawnOf("#"), lawnOf("."), fullLawn(10, 10, 0), fullLawn(10, 10, 2), fullLawn(3, 10, 0)} {
		for _, at := range noCells(l) {
			for _, way := range append(longWays(), "", "N", "x", "\xff") {
				for _, one := range rideCalls(ride{l, at, way}) {
					code(t, one.name, checkCall(t, one), impl.ErrRange)
				}
			}
			for _, one := range bestCalls(l, at, impl.Cell{}) {
				code(t, one.name, checkCall(t, one), impl.ErrRange)
			}
			_, got := impl.HomeFrom(l, impl.Cell{}, at)
			code(t, "HomeFrom, last", got, impl.ErrRange)
			_, got = impl.HomeFrom(l, at, at)
			code(t, "HomeFrom, both", got, impl.ErrRange)
		}
	}
}

// P1: ways that are none, or too long ones, on right and on wrong first cells.
func TestMowingWays(t *testing.T) {
	check := func(way string, want int64) {
		t.Helper()
		for _, one := range wayCalls(way) {
			code(t, fmt.Sprintf("%s of %.30q", one.name, way), checkCall(t, one), want)
		}
		for _, from := range []impl.Cell{{}, {X: 1, Y: 1}, {X: 2}} {
			for _, one := range rideCalls(ride{mowing(), from, way}) {
				code(t, fmt.Sprintf("%s of %.30q", one.name, way), checkCall(t, one), want)
			}
		}
	}
	for _, way := range noWays() {
		check(way, impl.ErrSyntax)
	}
	for _, way := range longWays() {
		check(way, impl.ErrLimit)
	}
}

// A way may have MaxWay letters, and no more.
func TestMaxWay(t *testing.T) {
	way := strings.Repeat("EW", impl.MaxWay/2)
	for _, one := range rideCalls(ride{lawnOf(".."), impl.Cell{}, way}) {
		code(t, one.name, checkCall(t, one), impl.OK)
	}
	for _, one := range wayCalls(way) {
		code(t, one.name, checkCall(t, one), impl.OK)
	}
	for _, one := range append(rideCalls(ride{lawnOf(".."), impl.Cell{}, way + "E"}), wayCalls(way+"E")...) {
		code(t, one.name, checkCall(t, one), impl.ErrLimit)
	}
	end, _ := impl.EndOf(lawnOf(".."), impl.Cell{}, way[1:]+"W")
	same(t, "wrong", end, impl.Cell{})
	end, _ = impl.EndOf(lawnOf(".."), impl.Cell{X: 1}, way[1:]+"E")
	same(t, "end", end, impl.Cell{X: 1})
}

// P4: cells that are mown and left are all grass, each one once.
func TestPromise4Grass(t *testing.T) {
	for one := range rides() {
		mown, got := impl.MownBy(one.lawn, one.from, one.way)
		code(t, "mown", got, impl.OK)
		left, got := impl.LeftBy(one.lawn, one.from, one.way)
		code(t, "left", got, impl.OK)
		if !slices.IsSortedFunc(mown, cellOrder) || !slices.IsSortedFunc(left, cellOrder) {
			t.Fatalf("%v: mown %v, left %v", one, mown, left)
		}
		all := append(slices.Clone(mown), left...)
		slices.SortFunc(all, cellOrder)
		same(t, "all grass", all, grassOf(one.lawn))
	}
}

// P4: a way back ends where the way began, and mows the same cells as often.
func TestPromise4Back(t *testing.T) {
	for one := range rides() {
		end, got := impl.EndOf(one.lawn, one.from, one.way)
		code(t, "end", got, impl.OK)
		back, got := impl.ReverseWay(one.way)
		code(t, "back", got, impl.OK)
		same(t, "long", len(back), len(one.way))
		begin, got := impl.EndOf(one.lawn, end, back)
		code(t, "begin", got, impl.OK)
		same(t, "begin", begin, one.from)
		times, _ := impl.MownTimes(one.lawn, one.from, one.way)
		again, _ := impl.MownTimes(one.lawn, end, back)
		same(t, "times", again, times)
	}
}

// farTurns is more than any number of turns or letters of a best way.
const farTurns = 10000

// stand is where a mower is, by the index of its open cell, what it has mown, and its last letter (4 if it has none).
type stand struct {
	at, mown, last int
}

// leastCosts returns for all stands what it costs at least to mow the rest, shortened until nothing becomes less.
// cost tells what a letter costs behind the one before.
func leastCosts(l impl.Lawn, cost func(last, letter int) int) map[stand]int {
	open, grass := openIn(l), grassOf(l)
	all := 1<<len(grass) - 1
	least := map[stand]int{}
	at := func(s stand) int {
		if s.mown == all {
			return 0
		}
		if known, ok := least[s]; ok {
			return known
		}
		return farTurns
	}
	for less := true; less; {
		less = false
		for mown := all; mown >= 0; mown-- {
			for i, from := range open {
				for last := range 5 {
					for letter := range 4 {
						next := slices.Index(open, gone(from, letters[letter]))
						if next < 0 {
							continue
						}
						after := mown
						if bit := slices.Index(grass, open[next]); bit >= 0 {
							after |= 1 << bit
						}
						s := stand{i, mown, last}
						if sum := cost(last, letter) + at(stand{next, after, letter}); sum < at(s) {
							least[s], less = sum, true
						}
					}
				}
			}
		}
	}
	return least
}

// begin returns where a mower stands at first.
func begin(l impl.Lawn, from impl.Cell) stand {
	s := stand{at: slices.Index(openIn(l), from), last: 4}
	if bit := slices.Index(grassOf(l), from); bit >= 0 {
		s.mown = 1 << bit
	}
	return s
}

func letterCost(int, int) int { return 1 }

func turnCost(last, letter int) int {
	if last == 4 || last == letter {
		return 0
	}
	return 1
}

// firstShortest returns the first one of the shortest whole ways, letter by letter.
func firstShortest(l impl.Lawn, from impl.Cell, least map[stand]int) string {
	open, grass := openIn(l), grassOf(l)
	way := ""
	for s := begin(l, from); s.mown != 1<<len(grass)-1; {
		for letter := range 4 {
			next := slices.Index(open, gone(open[s.at], letters[letter]))
			if next < 0 {
				continue
			}
			after := stand{next, s.mown, letter}
			if bit := slices.Index(grass, open[next]); bit >= 0 {
				after.mown |= 1 << bit
			}
			rest, known := least[after]
			if after.mown == 1<<len(grass)-1 {
				rest, known = 0, true
			}
			if known && rest == least[s]-1 {
				way, s = way+letters[letter:letter+1], after
				break
			}
		}
	}
	return way
}

// checkBest compares both best ways from all cells with the least costs.
func checkBest(t *testing.T, l impl.Lawn) {
	t.Helper()
	shortest, fewest := leastCosts(l, letterCost), leastCosts(l, turnCost)
	for _, from := range cellsOf(l) {
		way, got := impl.ShortestWhole(l, from)
		turns, gotTurns := impl.FewestTurns(l, from)
		if !isOpen(l, from) {
			code(t, "shortest, not open", got, impl.ErrState)
			code(t, "turns, not open", gotTurns, impl.ErrState)
			continue
		}
		first := begin(l, from)
		_, known := shortest[first]
		if first.mown != 1<<len(grassOf(l))-1 && !known {
			code(t, "shortest, apart", got, impl.ErrNotFound)
			code(t, "turns, apart", gotTurns, impl.ErrNotFound)
			same(t, "apart", []any{way, turns}, []any{"", int64(0)})
			continue
		}
		code(t, "shortest", got, impl.OK)
		code(t, "turns", gotTurns, impl.OK)
		if want := firstShortest(l, from, shortest); way != want {
			t.Fatalf("%v from %v: shortest %s, want %s", l, from, way, want)
		}
		want := 0
		if known {
			want = fewest[first]
		}
		if turns != int64(want) {
			t.Fatalf("%v from %v: %d turns, want %d", l, from, turns, want)
		}
	}
}

// P5: the shortest whole way and the fewest turns, on lawns up to both limits.
func TestPromise5Best(t *testing.T) {
	for l := range everyLawn(2, 2) {
		checkBest(t, l)
	}
	for l := range everyLawn(4, 1) {
		checkBest(t, l)
	}
	for l := range smallOpenLawns(40) {
		checkBest(t, l)
	}
	checkBest(t, fullLawn(3, 3, impl.LaGrass))
	checkBest(t, lawnOf(".=.=", "=.=.", ".=.=", "=.=."))
}

// P5: of all ways with so many letters none is whole and shorter, comes first, or has fewer turns.
func TestPromise5AllWays(t *testing.T) {
	for l := range everyLawn(3, 2) {
		if slices.ContainsFunc(cellsOf(l), func(at impl.Cell) bool { return kindOf(l, at) == impl.LaTree }) {
			continue // beds alone are enough for what cannot be passed
		}
		for _, from := range openIn(l) {
			checkAllWays(t, l, from)
		}
	}
}

func checkAllWays(t *testing.T, l impl.Lawn, from impl.Cell) {
	t.Helper()
	way, got := impl.ShortestWhole(l, from)
	turns, gotTurns := impl.FewestTurns(l, from)
	code(t, "both", got, gotTurns)
	ways := []string{""}
	for long := 0; long <= 7; long++ {
		var next []string
		for _, one := range ways {
			if len(grassLeft(l, from, one)) == 0 {
				if got != impl.OK || len(way) > len(one) || len(way) == len(one) && letterOrder(way, one) > 0 || turns > turnsIn(one) {
					t.Fatalf("%v from %v: shortest %q, %d turns (code %d), but %q is whole", l, from, way, turns, got, one)
				}
			}
			list, _ := cellsAlong(l, from, one)
			for i := range 4 {
				if hasOpen(l, gone(list[long], letters[i])) {
					next = append(next, one+letters[i:i+1])
				}
			}
		}
		ways = next
	}
	if got == impl.OK && (len(grassLeft(l, from, way)) > 0 || turns > turnsIn(way)) {
		t.Fatalf("%v from %v: %q is not whole, or has less than %d turns", l, from, way, turns)
	}
}

func TestPromise5Told(t *testing.T) {
	for _, one := range []struct {
		rows  []string
		from  impl.Cell
		way   string
		turns int64
	}{
		{[]string{"."}, impl.Cell{}, "", 0},
		{[]string{"="}, impl.Cell{}, "", 0},
		{[]string{"=#.."}, impl.Cell{X: 2}, "E", 0},
		{[]string{"...", ".#."}, impl.Cell{}, "SNEES", 3},
		{[]string{"..."}, impl.Cell{X: 1}, "WEE", 1},
		{[]string{".", ".", "."}, impl.Cell{Y: 1}, "NSS", 1},
		{[]string{"=.=.="}, impl.Cell{X: 2}, "WEE", 1},
		{[]string{"..", ".."}, impl.Cell{}, "ESW", 2},
		{[]string{"..", ".."}, impl.Cell{X: 1}, "WSE", 2},
		{[]string{"..", ".."}, impl.Cell{Y: 1}, "NES", 2},
		{[]string{"..", ".."}, impl.Cell{X: 1, Y: 1}, "NWS", 2},
		{[]string{"#.#", ".=.", "#.#"}, impl.Cell{X: 1, Y: 1}, "NSWEEWS", 4},
		{[]string{"...", "...", "..."}, impl.Cell{}, "EESWWSEE", 4},
	} {
		name := strings.Join(one.rows, "/")
		way, got := impl.ShortestWhole(lawnOf(one.rows...), one.from)
		code(t, name, got, impl.OK)
		same(t, name, way, one.way)
		turns, got := impl.FewestTurns(lawnOf(one.rows...), one.from)
		code(t, name, got, impl.OK)
		same(t, name, turns, one.turns)
	}
}

// A way of fewest turns may be longer than the shortest one.
func TestFewestTurnsLonger(t *testing.T) {
	l, from := lawnOf("..=", "..."), impl.Cell{Y: 1}
	way, _ := impl.ShortestWhole(l, from)
	same(t, "shortest", way, "NESE")
	turns, _ := impl.FewestTurns(l, from)
	same(t, "fewest", turns, int64(2))
	same(t, "longer", []any{len(grassLeft(l, from, "EENWW")), turnsIn("EENWW")}, []any{0, int64(2)})
	for way := range everyWay(4) {
		if _, right := cellsAlong(l, from, way); right && len(grassLeft(l, from, way)) == 0 {
			same(t, way+" turns more", turnsIn(way) > 2, true)
		}
	}
}

// bestOnBoth returns the codes of both functions with limits, and fails if they differ.
func bestOnBoth(t *testing.T, l impl.Lawn, from impl.Cell) int64 {
	t.Helper()
	way, got := impl.ShortestWhole(l, from)
	turns, gotTurns := impl.FewestTurns(l, from)
	code(t, "both", gotTurns, got)
	if got != impl.OK {
		same(t, "with an error", []any{way, turns}, []any{"", int64(0)})
	}
	return got
}

// openLawn returns a lawn of the greatest size with so much grass and then so many paths, row by row, and trees else.
func openLawn(grass, paths int) impl.Lawn {
	l := fullLawn(10, 10, impl.LaTree)
	for i, at := range cellsOf(l) {
		switch {
		case i < grass:
			l.Cells[at.Y][at.X] = impl.LaGrass
		case i < grass+paths:
			l.Cells[at.Y][at.X] = impl.LaPath
		}
	}
	return l
}

// MaxMown and MaxOpen cells may be there, and no more.
func TestBestLimits(t *testing.T) {
	for grass := range 20 {
		for paths := range 20 {
			want := int64(impl.OK)
			switch {
			case grass+paths == 0:
				want = impl.ErrState
			case grass > impl.MaxMown || grass+paths > impl.MaxOpen:
				want = impl.ErrLimit
			}
			code(t, fmt.Sprintf("%d and %d", grass, paths), bestOnBoth(t, openLawn(grass, paths), impl.Cell{}), want)
		}
	}
	code(t, "one by one", bestOnBoth(t, lawnOf("."), impl.Cell{}), impl.OK)
	code(t, "three by three", bestOnBoth(t, fullLawn(3, 3, 0), impl.Cell{X: 1, Y: 1}), impl.OK)
	code(t, "five by two", bestOnBoth(t, fullLawn(5, 2, 0), impl.Cell{}), impl.ErrLimit)
	code(t, "four by four paths", bestOnBoth(t, fullLawn(4, 4, 3), impl.Cell{}), impl.OK)
	code(t, "greatest", bestOnBoth(t, fullLawn(10, 10, 0), impl.Cell{}), impl.ErrLimit)
	way, _ := impl.ShortestWhole(openLawn(9, 7), impl.Cell{X: 5, Y: 1})
	same(t, "both limits", way, "NEEEWWWWWWWW")
	turns, _ := impl.FewestTurns(openLawn(9, 7), impl.Cell{X: 5, Y: 1})
	same(t, "both limits", turns, int64(2))
}

// Of the errors of best ways that of a cell that is not open comes first, then that of limits, and then that there is no way.
func TestBestErrorOrder(t *testing.T) {
	tree := impl.Cell{X: 9, Y: 9}
	code(t, "not open, too much grass", bestOnBoth(t, openLawn(10, 0), tree), impl.ErrState)
	code(t, "not open, too many paths", bestOnBoth(t, openLawn(0, 17), tree), impl.ErrState)
	code(t, "not open, no grass", bestOnBoth(t, openLawn(0, 0), tree), impl.ErrState)
	code(t, "not open, apart", bestOnBoth(t, lawnOf(".#."), impl.Cell{X: 1}), impl.ErrState)
	far := openLawn(10, 0)
	far.Cells[5][5] = impl.LaGrass
	code(t, "too much grass, apart", bestOnBoth(t, far, impl.Cell{}), impl.ErrLimit)
	far = openLawn(1, 15)
	far.Cells[5][5] = impl.LaGrass
	code(t, "too many open cells, apart", bestOnBoth(t, far, impl.Cell{}), impl.ErrLimit)
	far = openLawn(8, 7)
	far.Cells[5][5] = impl.LaGrass
	code(t, "as many as may be, apart", bestOnBoth(t, far, impl.Cell{}), impl.ErrNotFound)
	far.Cells[5][5] = impl.LaPath
	code(t, "a path apart", bestOnBoth(t, far, impl.Cell{}), impl.OK)
	code(t, "apart", bestOnBoth(t, lawnOf(".#."), impl.Cell{}), impl.ErrNotFound)
	code(t, "at a corner", bestOnBoth(t, lawnOf(".T", "#."), impl.Cell{}), impl.ErrNotFound)
	code(t, "from a path", bestOnBoth(t, lawnOf("=#."), impl.Cell{}), impl.ErrNotFound)
}

// The document's example of chapter 2.
func TestExample2(t *testing.T) {
	l, from := mowing(), impl.Cell{}
	mown, _ := impl.MownBy(l, from, "EES")
	same(t, "mown", mown, []impl.Cell{{}, {X: 1}, {X: 2}, {X: 2, Y: 1}})
	left, _ := impl.LeftBy(l, from, "EES")
	same(t, "left", left, []impl.Cell{{Y: 1}})
	turns, _ := impl.TurnsOf("EES")
	same(t, "turns", turns, int64(1))
	way, _ := impl.ShortestWhole(l, from)
	same(t, "shortest", way, "SNEES")
	turns, _ = impl.TurnsOf(way)
	fewest, _ := impl.FewestTurns(l, from)
	same(t, "turns", []int64{turns, fewest}, []int64{3, 3})
	rows, _ := impl.StripesBy(l, from, way)
	same(t, "pictures", rows, []string{"NEE", "S.S"})
	loose, _ := impl.LooseWay(way)
	same(t, "loosened", loose, "EES")
}
