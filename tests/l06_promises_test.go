package tests

import (
	"fmt"
	"math/rand"
	"slices"
	"strings"
	"testing"

	"loop.example/g01405/impl"
)

// moleAsk is all that functions of soil and moles are told.
type moleAsk struct {
	plot
	cell   impl.Cell
	other  impl.Cell // before, or a trap
	least  int64
	by     int64
	y      int64
	nights int64
	h      impl.Haul
	list   []impl.Haul
	text   string
}

// levelCalls returns calls of all functions with a code for which levels have to be valid.
func (a moleAsk) levelCalls() []call {
	one := func(result any, code int64) ([]any, int64) { return []any{result}, code }
	return []call{
		{"SoilSum", func() ([]any, int64) { r, c := impl.SoilSum(a.l, a.g); return one(r, c) }},
		{"HillsIn", func() ([]any, int64) { r, c := impl.HillsIn(a.l, a.g, a.least); return one(r, c) }},
		{"HighestCell", func() ([]any, int64) { at, n, c := impl.HighestCell(a.l, a.g); return []any{at, n}, c }},
		{"SteepSteps", func() ([]any, int64) { r, c := impl.SteepSteps(a.l, a.g, a.by); return one(r, c) }},
		{"MoveSoil", func() ([]any, int64) { r, c := impl.MoveSoil(a.l, a.g, a.h); return one(r, c) }},
		{"MoveAll", func() ([]any, int64) { r, c := impl.MoveAll(a.l, a.g, a.list); return one(r, c) }},
		{"EvenLevels", func() ([]any, int64) { r, n, c := impl.EvenLevels(a.l, a.g); return []any{r, n}, c }},
		{"LeastHaul", func() ([]any, int64) { r, n, c := impl.LeastHaul(a.l, a.g); return []any{r, n}, c }},
		{"RollRow", func() ([]any, int64) { r, n, c := impl.RollRow(a.l, a.g, a.y); return []any{r, n}, c }},
		{"MoleOnce", func() ([]any, int64) { r, at, c := impl.MoleOnce(a.l, a.g, a.cell, a.other); return []any{r, at}, c }},
		{"MoleNights", func() ([]any, int64) {
			r, list, c := impl.MoleNights(a.l, a.g, a.cell, a.nights)
			return []any{r, list}, c
		}},
		{"NightOf", func() ([]any, int64) { r, c := impl.NightOf(a.l, a.g, a.cell, a.other); return one(r, c) }},
		{"BestTrap", func() ([]any, int64) { at, n, c := impl.BestTrap(a.l, a.g, a.nights); return []any{at, n}, c }},
		{"MostVisited", func() ([]any, int64) {
			at, n, c := impl.MostVisited(a.l, a.g, a.cell, a.nights)
			return []any{at, n}, c
		}},
		{"MirrorLevels", func() ([]any, int64) { r, c := impl.MirrorLevels(a.l, a.g); return one(r, c) }},
	}
}

// calls returns calls of all functions.
func (a moleAsk) calls() []call {
	return append(a.levelCalls(), []call{
		{"ValidLevels", func() ([]any, int64) { return []any{impl.ValidLevels(a.l, a.g)}, impl.OK }},
		{"LevelsText", func() ([]any, int64) { return []any{impl.LevelsText(a.l, a.g)}, impl.OK }},
		{"ReadLevels", func() ([]any, int64) { r, c := impl.ReadLevels(a.l, a.text); return []any{r}, c }},
	}...)
}

// someMoleAsk returns what may be asked of a plot, with one of some texts: much of it right, much of it not.
func someMoleAsk(random *rand.Rand, p plot, texts []string) moleAsk {
	cells := append(noCells(p.l), impl.Cell{}, impl.Cell{X: 1}, impl.Cell{X: 1, Y: 1})
	if impl.ValidLawn(p.l) && random.Intn(4) > 0 {
		cells = cellsOf(p.l)
	}
	someNumber := func(wrong []int64, most int64) int64 {
		if random.Intn(4) == 0 {
			return anyOf(random, wrong)
		}
		return random.Int63n(most + 1)
	}
	someHaul := func() impl.Haul {
		return impl.Haul{From: anyOf(random, cells), To: anyOf(random, cells), Amount: anyOf(random, append(noAmounts(), 1, 1, 1, 1, 2, 2, 3, 5, 9, 17, 18))}
	}
	a := moleAsk{plot: p, cell: anyOf(random, cells), other: anyOf(random, cells), h: someHaul(), text: anyOf(random, texts)}
	a.least, a.by, a.y, a.nights = someNumber(noLevels(), 9), someNumber(noLevels(), 18), someNumber(noNights(), 9), someNumber(noNights(), 60)
	for range random.Intn(4) {
		a.list = append(a.list, someHaul())
	}
	if random.Intn(8) == 0 {
		a.list = slices.Repeat([]impl.Haul{someHaul()}, 58+random.Intn(5))
	}
	return a
}

// badPlots returns plots that are not valid, by their lawns or by their levels.
func badPlots() []plot {
	var list []plot
	for _, l := range badLawns() {
		list = append(list, plot{l: l}, plot{l, slope().g}, plot{l, filled(fullLawn(10, 10, 0), 9).g}, plot{l, filled(fullLawn(10, 10, 0), 127).g})
	}
	for _, p := range []plot{slope(), plotOf("0"), plotOf("#"), plotOf("9 # -9", "T 0 ="), {l: fullLawn(10, 10, 0)}, {l: fullLawn(10, 9, 3)}} {
		for _, g := range badLevels(p) {
			list = append(list, plot{p.l, g})
		}
	}
	return list
}

// P1 (chapter 6): every function returns for all arguments, and the same each time; no argument is modified, nor what lies behind it.
func TestPromise1Moles(t *testing.T) {
	random := rand.New(rand.NewSource(36))
	texts := append(noLevelsTexts(), "0\n", "0 0\n", "2 0 -1 -1\n", "1 -2\n0 3\n")
	var all []plot
	for p := range plots(60) {
		all = append(all, p)
	}
	for _, p := range badPlots() {
		if random.Intn(8) == 0 {
			all = append(all, p)
		}
	}
	for n := range 120 {
		all = append(all, balanced(random, randomPlot(random, slope().l).l, n%9))
	}
	for _, p := range all {
		for range 3 {
			a := someMoleAsk(random, p, texts)
			list, kept := roomy(a.list, haulOf(9, 9, 99))
			a.list = list
			before := a
			for _, one := range a.calls() {
				checkCall(t, one)
				if !kept() || a.plot != before.plot || a.h != before.h {
					t.Fatalf("%s modifies an argument", one.name)
				}
			}
		}
	}
}

// P1: lists and texts with as many elements as there may be are no matter.
func TestMolesManyElements(t *testing.T) {
	const many = 1000000
	for _, h := range []impl.Haul{haulOf(0, 1, 1), {}} {
		moved, got := impl.MoveAll(slope().l, slope().g, slices.Repeat([]impl.Haul{h}, many))
		same(t, "hauls", []any{moved, got}, []any{impl.Levels{}, int64(impl.ErrLimit)})
	}
	for _, text := range []string{strings.Repeat("0 ", many/2), strings.Repeat("0\n", many/2), strings.Repeat("1", many), strings.Repeat("-", many), "2 0 -1 -1\n" + strings.Repeat("\n", many-20)} {
		read, got := impl.ReadLevels(slope().l, text)
		same(t, "text", []any{read, got}, []any{impl.Levels{}, int64(impl.ErrSyntax)})
	}
}

// P1: what is returned shares no memory with what is given, nor with what another call returns.
func TestMolesNew(t *testing.T) {
	p := slope()
	for range 2 {
		hauls, _, _ := impl.LeastHaul(p.l, p.g)
		same(t, "hauls", hauls, []impl.Haul{haulOf(0, 2, 1), haulOf(0, 3, 1)})
		spoilSlice(hauls, haulOf(9, 9, 9))
		_, cells, _ := impl.MoleNights(p.l, p.g, xy(0, 0), 2)
		same(t, "cells", cells, walkOf(0, 10, 20))
		spoilSlice(cells, xy(9, 9))
		hills, _ := impl.HillsIn(p.l, p.g, 0)
		same(t, "hills", hills, walkOf(0, 10))
		spoilSlice(hills, xy(9, 9))
	}
	list := []impl.Haul{haulOf(0, 2, 1), haulOf(0, 3, 1)}
	impl.MoveAll(p.l, p.g, list)
	same(t, "list", list, []impl.Haul{haulOf(0, 2, 1), haulOf(0, 3, 1)})
	same(t, "plot", p, slope())
}

// moleFault is something that is wrong with what is asked, the code that it leads to, and the functions that have it.
type moleFault struct {
	code  int64
	make  func(a *moleAsk)
	names []string
}

// moleFaults returns all faults but levels that are not valid, those that come later first, so that a fault that comes first is not undone.
func moleFaults() []moleFault {
	noGrass := xy(0, 1)
	atCell := []string{"MoleOnce", "MoleNights", "NightOf", "MostVisited"}
	atOther, byNights := []string{"MoleOnce", "NightOf"}, []string{"MoleNights", "BestTrap", "MostVisited"}
	return []moleFault{
		{impl.ErrNotFound, func(a *moleAsk) { a.nights = 0 }, []string{"MostVisited"}},
		{impl.ErrState, func(a *moleAsk) { a.cell = noGrass }, atCell},
		{impl.ErrState, func(a *moleAsk) { a.other = noGrass }, atOther},
		{impl.ErrState, func(a *moleAsk) { a.h.To = a.h.From }, []string{"MoveSoil"}},
		{impl.ErrState, func(a *moleAsk) { a.h.From = noGrass }, []string{"MoveSoil"}},
		{impl.ErrState, func(a *moleAsk) { a.list = append(slices.Clone(a.list), impl.Haul{To: xy(1, 0), Amount: 18}) }, []string{"MoveAll"}},
		{impl.ErrRange, func(a *moleAsk) { a.list = append([]impl.Haul{{To: xy(1, 0)}}, a.list...) }, []string{"MoveAll"}},
		{impl.ErrLimit, func(a *moleAsk) { a.list = append(slices.Clone(a.list), make([]impl.Haul, 60)...) }, []string{"MoveAll"}},
		{impl.ErrRange, func(a *moleAsk) { a.h.Amount = 19 }, []string{"MoveSoil"}},
		{impl.ErrRange, func(a *moleAsk) { a.h.To = xy(3, 0) }, []string{"MoveSoil"}},
		{impl.ErrRange, func(a *moleAsk) { a.cell = xy(3, 0) }, atCell},
		{impl.ErrRange, func(a *moleAsk) { a.other = xy(0, -1) }, atOther},
		{impl.ErrRange, func(a *moleAsk) { a.nights = 61 }, byNights},
		{impl.ErrRange, func(a *moleAsk) { a.least, a.by, a.y = 10, 19, 3 }, []string{"HillsIn", "SteepSteps", "RollRow"}},
	}
}

// soundMoleAsk returns what all functions can do.
func soundMoleAsk() moleAsk {
	from, to := xy(1, 1), xy(1, 2)
	return moleAsk{
		plot: plotOf("0 0 =", "# 2 0", "0 -2 T"), cell: from, other: to, nights: 3,
		h: impl.Haul{From: from, To: to, Amount: 2}, list: []impl.Haul{{From: from, Amount: 1}}, text: "0 0 0\n0 2 0\n0 -2 0\n",
	}
}

// rank tells how early a code comes in the functions of this chapter: ErrLimit only in MoveAll, where it is ahead of all but ErrInvalid.
func rank(name string, code int64) int64 {
	if name == "MoveAll" && code == impl.ErrLimit {
		return impl.ErrInvalid
	}
	return code
}

// Of several errors the one that is told first comes first, in all functions, with each set of faults.
func TestMoleErrorOrder(t *testing.T) {
	all := moleFaults()
	for set := range 1 << len(all) {
		a, wants := soundMoleAsk(), map[string]int64{}
		for i, one := range all {
			if set>>i&1 == 0 {
				continue
			}
			one.make(&a)
			for _, name := range one.names {
				if want := wants[name]; want == impl.OK || rank(name, one.code) < rank(name, want) {
					wants[name] = one.code
				}
			}
		}
		for _, one := range a.calls() {
			if _, got := one.results(); got != wants[one.name] {
				t.Fatalf("%s, faults %014b: code %d, want %d", one.name, set, got, wants[one.name])
			}
		}
		bad := a
		bad.g[9][9] = 1
		if set%2 == 1 {
			bad.l, bad.g = withCell(a.l, xy(9, 9), 1), a.g
		}
		for _, one := range bad.levelCalls() {
			if results, got := one.results(); got != impl.ErrInvalid {
				t.Fatalf("%s, not valid, faults %014b: %v (code %d)", one.name, set, results, got)
			}
		}
	}
}

// P1, conventions: levels that are not valid are told before any other error; all else is zero then.
func TestMolesInvalidFirst(t *testing.T) {
	for _, p := range badPlots() {
		wrong := moleAsk{plot: p, cell: xy(-1, 0), other: xy(10, 0), least: 10, by: -1, y: 10, nights: 61, list: make([]impl.Haul, 61)}
		right := moleAsk{plot: p, nights: 1, h: haulOf(0, 1, 1), list: []impl.Haul{haulOf(0, 1, 1)}}
		for _, a := range []moleAsk{wrong, right} {
			for _, one := range a.levelCalls() {
				code(t, fmt.Sprint(one.name, p.l, p.g), checkCall(t, one), impl.ErrInvalid)
			}
		}
		same(t, "text", impl.LevelsText(p.l, p.g), "")
		same(t, "valid", impl.ValidLevels(p.l, p.g), false)
	}
}

// Numbers that are 0, negative or too great, each one by itself, and those at the limits.
func TestMolesRange(t *testing.T) {
	for _, p := range []plot{slope(), plotOf("#"), plotOf("9"), filled(fullLawn(10, 10, 0), -9), {l: fullLawn(10, 10, 2)}} {
		for _, bad := range noLevels() {
			hills, got := impl.HillsIn(p.l, p.g, bad)
			same(t, fmt.Sprint("least ", bad), hills, []impl.Cell(nil))
			code(t, fmt.Sprint("least ", bad), got, impl.ErrRange)
		}
		for _, bad := range []int64{-1, 19, -18, 20, 127, 256, 1 << 32, 1<<32 + 5, -1 << 63, 1<<63 - 1} {
			count, got := impl.SteepSteps(p.l, p.g, bad)
			same(t, fmt.Sprint("by ", bad), []int64{count, got}, []int64{0, impl.ErrRange})
		}
		for _, bad := range noNights() {
			for _, one := range (moleAsk{plot: p, nights: bad}).levelCalls() {
				if one.name == "MoleNights" || one.name == "BestTrap" || one.name == "MostVisited" {
					code(t, fmt.Sprint(one.name, bad), checkCall(t, one), impl.ErrRange)
				}
			}
		}
		for _, bad := range noAmounts() {
			for _, h := range []impl.Haul{haulOf(0, 0, bad), haulOf(0, 1, bad), haulOf(1, 0, bad), haulOf(-1, 0, bad)} {
				for _, one := range (moleAsk{plot: p, h: h, list: []impl.Haul{h}}).levelCalls() {
					if one.name == "MoveSoil" || one.name == "MoveAll" {
						code(t, fmt.Sprint(one.name, h), checkCall(t, one), impl.ErrRange)
					}
				}
			}
		}
	}
	for _, right := range []moleAsk{
		{plot: plotOf("9 -9"), least: -9, by: 0, y: 0, nights: 1, h: haulOf(0, 1, 1)},
		{plot: plotOf("9 -9"), least: 9, by: 18, y: 0, nights: 60, h: haulOf(0, 1, 18)},
	} {
		for _, one := range right.calls() {
			want := int64(impl.OK)
			if one.name == "LeastHaul" {
				want = impl.ErrLimit
			} else if one.name == "ReadLevels" {
				want = impl.ErrSyntax
			}
			code(t, one.name, checkCall(t, one), want)
		}
	}
}

// grassCode tells the code of cells that have to be grass.
func grassCode(l impl.Lawn, cells ...impl.Cell) int64 {
	want := int64(impl.OK)
	for _, at := range cells {
		if !slices.Contains(cellsOf(l), at) {
			return impl.ErrRange
		}
		if !hasGrass(l, at) {
			want = impl.ErrState
		}
	}
	return want
}

// Cells that a lawn has not, and those that are no grass.
func TestMolesCells(t *testing.T) {
	random := rand.New(rand.NewSource(41))
	for p := range plots(30) {
		cells := append(noCells(p.l), cellsOf(p.l)...)
		for _, at := range cells {
			want := grassCode(p.l, at)
			for _, nights := range []int64{1, 60} {
				_, _, got := impl.MoleNights(p.l, p.g, at, nights)
				code(t, fmt.Sprint("MoleNights ", at), got, want)
				_, _, got = impl.MostVisited(p.l, p.g, at, nights)
				code(t, fmt.Sprint("MostVisited ", at), got, want)
			}
			for _, other := range append(someOf(random, cells, 3), at) {
				for _, pair := range [][2]impl.Cell{{at, other}, {other, at}} {
					want := grassCode(p.l, at, other)
					_, _, got := impl.MoleOnce(p.l, p.g, pair[0], pair[1])
					code(t, fmt.Sprint("MoleOnce ", pair), got, want)
					if _, got := impl.NightOf(p.l, p.g, pair[0], pair[1]); got != want && (want != impl.OK || got != impl.ErrNotFound) {
						t.Fatalf("%v, NightOf %v: code %d, want %d", p, pair, got, want)
					}
					if _, got := impl.MoveSoil(p.l, p.g, impl.Haul{From: pair[0], To: pair[1], Amount: 1}); got != want && (want != impl.OK || got != impl.ErrState) {
						t.Fatalf("%v, MoveSoil %v: code %d, want %d", p, pair, got, want)
					}
				}
			}
		}
	}
}

// P13: soil that is moved, evened or rolled sums up.
func TestPromise13Sums(t *testing.T) {
	random := rand.New(rand.NewSource(37))
	moves := 0
	for p := range plots(400) {
		sum := p.sum()
		check := func(name string, g impl.Levels, got int64) {
			t.Helper()
			if got != impl.OK {
				return
			}
			moves++
			after := plot{p.l, g}
			if !after.isSound() || after.sum() != sum {
				t.Fatalf("%s, %v: %v sums up to %d, not to %d", name, p, after, after.sum(), sum)
			}
			if told, got := impl.SoilSum(p.l, g); got != impl.OK || told != sum {
				t.Fatalf("%s, %v: %d (code %d) is told of the sum %d", name, p, told, got, sum)
			}
		}
		grass := grassOf(p.l)
		var list []impl.Haul
		for range min(6, len(grass)) {
			h := impl.Haul{From: anyOf(random, grass), To: anyOf(random, grass), Amount: int8(1 + random.Intn(9))}
			moved, got := impl.MoveSoil(p.l, p.g, h)
			check("moved", moved, got)
			list = append(list, h)
			moved, got = impl.MoveAll(p.l, p.g, list)
			check("all moved", moved, got)
		}
		even, _, got := impl.EvenLevels(p.l, p.g)
		check("evened", even, got)
		for y := range p.l.High {
			rolled, _, got := impl.RollRow(p.l, p.g, int64(y))
			check("rolled", rolled, got)
		}
		mirrored, got := impl.MirrorLevels(p.l, p.g)
		check("mirrored", mirrored, got)
	}
	if moves < 5000 {
		t.Errorf("only %d", moves)
	}
}

// P13: what one cell loses others get: only the cells of a haul change, only those of a row that is rolled, and evened they differ by 1 at most.
func TestPromise13Changes(t *testing.T) {
	for p := range plots(200) {
		changed := func(g impl.Levels) []impl.Cell {
			return slices.DeleteFunc(cellsOf(p.l), func(at impl.Cell) bool { return plot{p.l, g}.at(at) == p.at(at) })
		}
		for y := range p.l.High {
			rolled, gone, _ := impl.RollRow(p.l, p.g, int64(y))
			for _, at := range changed(rolled) {
				same(t, "row", at.Y, y)
			}
			if (gone == 0) != (rolled == p.g) {
				t.Fatalf("%v, %d: %d have gone", p, y, gone)
			}
		}
		even, lost, got := impl.EvenLevels(p.l, p.g)
		if got != impl.OK {
			continue
		}
		after := plot{p.l, even}
		lowest, highest := 9, -9
		for _, at := range grassOf(p.l) {
			lowest, highest = min(lowest, after.at(at)), max(highest, after.at(at))
		}
		if highest > lowest+1 || (lost == 0) != (even == p.g) {
			t.Fatalf("%v: %v, %d lost", p, after, lost)
		}
		again, more, _ := impl.EvenLevels(p.l, even)
		same(t, "again", []any{again, more}, []any{even, int64(0)})
	}
}

// checkHauls compares the hauls of a plot with those found by all orders, and with the least steps by sets.
func checkHauls(t *testing.T, p plot) int64 {
	t.Helper()
	want, wantSteps, wantCode := haulsBy(p)
	hauls, steps, got := impl.LeastHaul(p.l, p.g)
	if got != wantCode || steps != wantSteps || !slices.Equal(hauls, want) {
		t.Fatalf("%v: %v, %d (code %d), want %v, %d (code %d)", p, hauls, steps, got, want, wantSteps, wantCode)
	}
	if got != impl.OK {
		return got
	}
	if least := leastBySets(p); steps != least {
		t.Fatalf("%v: %d steps, but %d are enough", p, steps, least)
	}
	sum := int64(0)
	for _, h := range hauls {
		far, farCode := impl.StepsTo(p.l, h.From, h.To)
		code(t, "steps", farCode, impl.OK)
		sum += far
	}
	flat, movedCode := impl.MoveAll(p.l, p.g, hauls)
	if sum != steps || flat != (impl.Levels{}) || movedCode != impl.OK {
		t.Fatalf("%v: %v go %d steps, not %d, and leave %v (code %d)", p, hauls, sum, steps, flat, movedCode)
	}
	return impl.OK
}

// P13: no hauls go fewer steps, and none before them as few: all small plots.
func TestPromise13AllPlots(t *testing.T) {
	for _, size := range [][2]int8{{1, 1}, {4, 1}, {1, 4}, {2, 2}} {
		for p := range everyPlot(size[0], size[1], -3, -2, -1, 0, 1, 2, 4) {
			checkHauls(t, p)
		}
	}
	for l := range everyLawn(3, 1) {
		for _, levels := range [][3]int{{1, -1, 0}, {1, 0, -1}, {-2, 0, 2}, {-1, 2, -1}, {1, 1, -2}} {
			p := plot{l: l}
			for x, level := range levels {
				if hasGrass(l, xy(int8(x), 0)) {
					p = p.with(xy(int8(x), 0), level)
				}
			}
			checkHauls(t, p)
		}
	}
}

// P13: hauls of all numbers of units, on lawns of all sizes.
func TestPromise13ManyHauls(t *testing.T) {
	random := rand.New(rand.NewSource(38))
	codes := map[int64]int{}
	n := 0
	for l := range edgeLawns(250) {
		n++
		codes[checkHauls(t, balanced(random, l, n%8))]++
		codes[checkHauls(t, randomPlot(random, l))]++
	}
	for range 150 {
		// Few cells have many units, so that many lists are equally short.
		l := fullLawn(int8(2+random.Intn(3)), int8(1+random.Intn(3)), 0)
		codes[checkHauls(t, balanced(random, l, 3+random.Intn(4)))]++
	}
	for _, wanted := range []int64{impl.OK, impl.ErrState, impl.ErrLimit, impl.ErrNotFound} {
		if codes[wanted] < 20 {
			t.Errorf("codes %v", codes)
		}
	}
}

// P14: a mole throws up at most 1 a night, at the cell to which it comes, and nothing only if this is as high as can be.
func TestPromise14(t *testing.T) {
	random := rand.New(rand.NewSource(39))
	nothing := 0
	for p := range plots(300) {
		grass := grassOf(p.l)
		for range min(10, len(grass)) {
			at, before := anyOf(random, grass), anyOf(random, grass)
			thrown, to, got := impl.MoleOnce(p.l, p.g, at, before)
			code(t, "night", got, impl.OK)
			if to != at && (!beside(at, to) || !hasGrass(p.l, to)) {
				t.Fatalf("%v: from %v to %v", p, at, to)
			}
			want := p.with(to, p.at(to)+1)
			if p.at(to) == impl.MaxLevel {
				want = p
				nothing++
			}
			if thrown != want.g {
				t.Fatalf("%v, %v: %v, want %v", p, at, plot{p.l, thrown}, want)
			}
		}
	}
	if nothing < 200 {
		t.Errorf("only %d throw up nothing", nothing)
	}
}

// P14: several nights are as one after the other, with the night before remembered, and throw up no more than there are.
func TestPromise14Nights(t *testing.T) {
	random := rand.New(rand.NewSource(40))
	for p := range plots(150) {
		grass := grassOf(p.l)
		if len(grass) == 0 {
			continue
		}
		first := anyOf(random, grass)
		at, before, now := first, first, p
		cells := []impl.Cell{first}
		for nights := range int64(61) {
			thrown, list, got := impl.MoleNights(p.l, p.g, first, nights)
			if got != impl.OK || thrown != now.g || !slices.Equal(list, cells) {
				t.Fatalf("%v, %v, %d nights: %v, %v (code %d), want %v, %v", p, first, nights, plot{p.l, thrown}, list, got, now, cells)
			}
			if more := now.sum() - p.sum(); more < 0 || more > nights {
				t.Fatalf("%v: %d in %d nights", p, more, nights)
			}
			g, to, _ := impl.MoleOnce(p.l, now.g, at, before)
			at, before, now.g = to, at, g
			cells = append(cells, to)
		}
	}
}
