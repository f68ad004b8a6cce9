package tests

import (
	"fmt"
	"math/rand"
	"runtime"
	"slices"
	"strings"
	"sync"
	"testing"
	"time"

	"loop.example/g01405/impl"
)

// edgeAsk is all that functions of edges are told.
type edgeAsk struct {
	l     impl.Lawn
	at    impl.Cell
	w     impl.Wear
	holds int64
	list  []int64
	strip int64
	sides impl.Sides
	text  string
}

// lawnCalls returns calls of all functions with a lawn.
func (a edgeAsk) lawnCalls() []call {
	one := func(result any, code int64) ([]any, int64) { return []any{result}, code }
	return []call{
		{"SidesOf", func() ([]any, int64) { r, c := impl.SidesOf(a.l); return one(r, c) }},
		{"EdgeLong", func() ([]any, int64) { r, c := impl.EdgeLong(a.l); return one(r, c) }},
		{"SidesAt", func() ([]any, int64) { r, c := impl.SidesAt(a.l, a.at); return one(r, c) }},
		{"CornersOf", func() ([]any, int64) { r, c := impl.CornersOf(a.l); return one(r, c) }},
		{"RingsOf", func() ([]any, int64) { r, c := impl.RingsOf(a.l); return one(r, c) }},
		{"LineFor", func() ([]any, int64) { r, c := impl.LineFor(a.l, a.w); return one(r, c) }},
		{"SpoolsFor", func() ([]any, int64) { r, c := impl.SpoolsFor(a.l, a.w, a.holds); return one(r, c) }},
		{"GiveUp", func() ([]any, int64) { at, n, c := impl.GiveUp(a.l); return []any{at, n}, c }},
		{"PlantAt", func() ([]any, int64) { at, n, c := impl.PlantAt(a.l); return []any{at, n}, c }},
		{"RoundOff", func() ([]any, int64) { l, n, c := impl.RoundOff(a.l); return []any{l, n}, c }},
		{"BorderOf", func() ([]any, int64) { r, c := impl.BorderOf(a.l); return one(r, c) }},
		{"InnerOf", func() ([]any, int64) { r, c := impl.InnerOf(a.l); return one(r, c) }},
		{"DepthOf", func() ([]any, int64) { r, c := impl.DepthOf(a.l, a.at); return one(r, c) }},
	}
}

// stripCalls returns calls of both functions with pieces.
func (a edgeAsk) stripCalls() []call {
	return []call{
		{"CutStrips", func() ([]any, int64) { r, n, c := impl.CutStrips(a.list, a.strip); return []any{r, n}, c }},
		{"FewestStrips", func() ([]any, int64) { r, n, c := impl.FewestStrips(a.list, a.strip); return []any{r, n}, c }},
	}
}

// calls returns calls of all functions.
func (a edgeAsk) calls() []call {
	return append(append(a.lawnCalls(), a.stripCalls()...), []call{
		{"ValidWear", func() ([]any, int64) { return []any{impl.ValidWear(a.w)}, impl.OK }},
		{"SidesText", func() ([]any, int64) { return []any{impl.SidesText(a.sides)}, impl.OK }},
		{"ReadSides", func() ([]any, int64) { r, c := impl.ReadSides(a.text); return []any{r}, c }},
	}...)
}

// someEdgeAsk returns what may be asked on a lawn, with one of some texts: much of it right, much of it not.
func someEdgeAsk(random *rand.Rand, l impl.Lawn, texts []string) edgeAsk {
	cells := append(noCells(l), impl.Cell{}, impl.Cell{X: 1}, impl.Cell{X: 1, Y: 1})
	if impl.ValidLawn(l) && random.Intn(4) > 0 {
		cells = cellsOf(l)
	}
	numbers := append(noLines(), 1, 2, 7, 100, 400, 401, 4999, 5000)
	a := edgeAsk{l: l, at: anyOf(random, cells), holds: 1 + random.Int63n(5000), text: anyOf(random, texts)}
	a.list, a.strip = randomPieces(random, random.Intn(11))
	for beside := range 5 {
		a.sides[beside] = int64(random.Intn(401))
		if beside > 0 {
			a.w[beside] = int8(random.Intn(101))
		}
	}
	if random.Intn(3) == 0 {
		a.w, a.holds, a.strip = anyOf(random, badWears()), anyOf(random, numbers), anyOf(random, numbers)
		a.list, a.sides[random.Intn(5)] = someOf(random, numbers, random.Intn(11)), anyOf(random, numbers)
	}
	return a
}

// P1 (chapter 5): every function returns for all arguments, and the same each time; no argument is modified, nor what lies behind it.
func TestPromise1Edges(t *testing.T) {
	random := rand.New(rand.NewSource(24))
	texts := append(noSidesTexts(), "0 0 0 0 0", "16 4 0 0 12", "400 0 400 0 400")
	var lawns []impl.Lawn
	for l := range edgeLawns(60) {
		lawns = append(lawns, l)
	}
	for _, l := range badLawns() {
		lawns = append(lawns, l)
	}
	for _, l := range lawns {
		for range 6 {
			a := someEdgeAsk(random, l, texts)
			list, kept := roomy(a.list, 66)
			a.list = list
			before := a
			for _, one := range a.calls() {
				checkCall(t, one)
				if !kept() || a.l != before.l || a.w != before.w || a.sides != before.sides {
					t.Fatalf("%s modifies an argument", one.name)
				}
			}
		}
	}
	for _, text := range texts {
		for _, one := range (edgeAsk{text: text}).calls() {
			checkCall(t, one)
		}
	}
}

// P1: lists and texts with as many elements as there may be are no matter.
func TestEdgesManyElements(t *testing.T) {
	const many = 1000000
	ones := slices.Repeat([]int64{1}, many)
	late := slices.Clone(ones)
	late[many-1] = 0
	for i, list := range [][]int64{ones, late} {
		for _, one := range (edgeAsk{list: list, strip: 1}).stripCalls() {
			code(t, one.name, checkCall(t, one), []int64{impl.ErrLimit, impl.ErrRange}[i])
		}
	}
	for _, text := range []string{strings.Repeat("0 ", many/2), strings.Repeat("1", many), "0 0 0 0 " + strings.Repeat("1", many-8)} {
		_, got := impl.ReadSides(text)
		code(t, "text", got, impl.ErrSyntax)
	}
}

// P1: what is returned shares no memory with what is given, nor with what another call returns.
func TestStripsNew(t *testing.T) {
	list := []int64{1, 2, 3}
	for _, tell := range []func([]int64, int64) ([]int64, int64, int64){impl.CutStrips, impl.FewestStrips} {
		strips, _, _ := tell(list, 3)
		spoilSlice(strips, 99)
		same(t, "pieces", list, []int64{1, 2, 3})
		again, _, _ := tell(list, 3)
		same(t, "strips", again, []int64{0, 0, 1})
	}
}

// P1, conventions: no goroutine goes on behind the return of a call.
func TestStripsEnd(t *testing.T) {
	before := runtime.NumGoroutine()
	random := rand.New(rand.NewSource(25))
	for n := range 300 {
		list, strip := randomPieces(random, n%9)
		impl.FewestStrips(list, strip)
	}
	// One that has closed its channel may need a moment to end.
	for range 100 {
		if runtime.NumGoroutine() <= before {
			return
		}
		time.Sleep(time.Millisecond)
	}
	t.Errorf("%d go on, and before %d did", runtime.NumGoroutine(), before)
}

// P1: the same is returned however many calls are made at the same time, and however the goroutines take turns.
func TestStripsTogether(t *testing.T) {
	list, strip := []int64{4, 3, 3, 5, 3, 3, 3, 1}, int64(13)
	want := []int64{0, 0, 0, 1, 0, 1, 1, 1}
	var group sync.WaitGroup
	for range 8 {
		group.Go(func() {
			for range 200 {
				if strips, count, got := impl.FewestStrips(list, strip); got != impl.OK || count != 2 || !slices.Equal(strips, want) {
					t.Errorf("%v, %d (code %d)", strips, count, got)
					return
				}
			}
		})
	}
	group.Wait()
}

// edgeFault is something that is wrong with what is asked, the code that it leads to, and the functions that have it.
type edgeFault struct {
	code  int64
	make  func(a *edgeAsk)
	names []string
}

// edgeFaults returns all faults but a lawn that is not valid, those that come later first, so that a fault that comes first is not undone.
func edgeFaults() []edgeFault {
	atCell, spools, strips := []string{"SidesAt", "DepthOf"}, []string{"SpoolsFor"}, []string{"CutStrips", "FewestStrips"}
	return []edgeFault{
		{impl.ErrNotFound, func(a *edgeAsk) { a.holds = 1 }, spools},
		{impl.ErrNotFound, func(a *edgeAsk) { a.strip = 4 }, strips},
		{impl.ErrState, func(a *edgeAsk) { a.at = impl.Cell{Y: 1} }, atCell},
		{impl.ErrLimit, func(a *edgeAsk) { a.list = append(slices.Clone(a.list), 5, 1, 1, 1, 1) }, strips},
		{impl.ErrRange, func(a *edgeAsk) { a.list = append(slices.Clone(a.list), 0) }, strips},
		{impl.ErrRange, func(a *edgeAsk) { a.list = append([]int64{5001}, a.list...) }, strips},
		{impl.ErrRange, func(a *edgeAsk) { a.strip = 0 }, strips},
		{impl.ErrRange, func(a *edgeAsk) { a.strip = 5001 }, strips},
		{impl.ErrRange, func(a *edgeAsk) { a.at = impl.Cell{X: 3} }, atCell},
		{impl.ErrRange, func(a *edgeAsk) { a.holds = 0 }, spools},
		{impl.ErrRange, func(a *edgeAsk) { a.holds = 5001 }, spools},
		{impl.ErrInvalid, func(a *edgeAsk) { a.w[0] = 1 }, []string{"LineFor", "SpoolsFor"}},
		{impl.ErrInvalid, func(a *edgeAsk) { a.w[4] = 101 }, []string{"LineFor", "SpoolsFor"}},
	}
}

// soundEdgeAsk returns what all functions can do.
func soundEdgeAsk() edgeAsk {
	return edgeAsk{l: example(), at: impl.Cell{X: 1, Y: 1}, w: impl.Wear{0, 2, 1, 1, 1}, holds: 7, list: []int64{6, 5, 4, 5}, strip: 10, text: "1 2 3 4 5"}
}

// Of several errors the one that is told first comes first, in all functions, with each set of faults.
func TestEdgeErrorOrder(t *testing.T) {
	all := edgeFaults()
	for set := range 1 << len(all) {
		a, wants := soundEdgeAsk(), map[string]int64{}
		for i, one := range all {
			if set>>i&1 == 0 {
				continue
			}
			one.make(&a)
			for _, name := range one.names {
				if want := wants[name]; want == impl.OK || one.code < want {
					wants[name] = one.code
				}
			}
		}
		for _, one := range a.calls() {
			if _, got := one.results(); got != wants[one.name] {
				t.Fatalf("%s, faults %013b: code %d, want %d", one.name, set, got, wants[one.name])
			}
		}
		a.l.Cells[9][9] = 1
		for _, one := range a.lawnCalls() {
			if results, got := one.results(); got != impl.ErrInvalid {
				t.Fatalf("%s, lawn not valid, faults %013b: %v (code %d)", one.name, set, results, got)
			}
		}
	}
}

// P1, conventions: a lawn that is not valid is told before any other error, and so is wear; all else is zero then.
func TestEdgesInvalidFirst(t *testing.T) {
	sound := soundEdgeAsk()
	for name, l := range badLawns() {
		for _, w := range append(badWears(), impl.Wear{}, sound.w) {
			for _, holds := range []int64{0, 1, 7} {
				for _, one := range (edgeAsk{l: l, at: impl.Cell{X: -1}, w: w, holds: holds}).lawnCalls() {
					if results, got := one.results(); got != impl.ErrInvalid {
						t.Fatalf("%s, %s: %v (code %d)", one.name, name, results, got)
					}
				}
			}
		}
		for _, one := range (edgeAsk{l: l}).lawnCalls() {
			code(t, one.name+", "+name, checkCall(t, one), impl.ErrInvalid)
		}
	}
	for _, l := range []impl.Lawn{garden(), lawnOf("#"), fullLawn(10, 10, 0), fullLawn(10, 10, 2)} {
		for _, w := range badWears() {
			for _, holds := range append(noLines(), 1, 7, 5000) {
				_, got := impl.LineFor(l, w)
				code(t, fmt.Sprint(w), got, impl.ErrInvalid)
				_, got = impl.SpoolsFor(l, w, holds)
				code(t, fmt.Sprint(w, holds), got, impl.ErrInvalid)
			}
		}
	}
}

// Cells that a lawn has not, and those that are no grass.
func TestEdgeCells(t *testing.T) {
	for l := range edgeLawns(30) {
		for _, at := range noCells(l) {
			_, got := impl.SidesAt(l, at)
			code(t, fmt.Sprint("sides at ", at), got, impl.ErrRange)
			_, got = impl.DepthOf(l, at)
			code(t, fmt.Sprint("depth of ", at), got, impl.ErrRange)
		}
		for _, at := range cellsOf(l) {
			want := int64(impl.OK)
			if kindOf(l, at) != impl.LaGrass {
				want = impl.ErrState
			}
			for _, one := range (edgeAsk{l: l, at: at}).lawnCalls() {
				if one.name == "SidesAt" || one.name == "DepthOf" {
					code(t, fmt.Sprint(one.name, at), checkCall(t, one), want)
				}
			}
		}
	}
}

// Spools, strips and pieces that are 0, negative or too long, each one by itself and with other errors behind it.
func TestLineRange(t *testing.T) {
	for _, bad := range noLines() {
		for _, l := range []impl.Lawn{garden(), lawnOf("#"), fullLawn(10, 10, 0)} {
			for _, w := range []impl.Wear{{}, {0, 100, 100, 100, 100}} {
				spools, got := impl.SpoolsFor(l, w, bad)
				same(t, fmt.Sprint("holds ", bad), []int64{spools, got}, []int64{0, impl.ErrRange})
			}
		}
		for _, a := range []edgeAsk{
			{list: nil, strip: bad}, {list: []int64{1}, strip: bad}, {list: []int64{bad}, strip: bad}, {list: []int64{bad}, strip: 1}, {list: []int64{bad}, strip: 5000},
			{list: []int64{1, 1, bad}, strip: 1}, {list: []int64{9, bad}, strip: 5}, {list: []int64{bad, 9}, strip: 5}, {list: make([]int64, 9), strip: bad},
			{list: slices.Repeat([]int64{9}, 9), strip: bad}, {list: append(slices.Repeat([]int64{9}, 8), bad), strip: 5}, {list: append([]int64{bad}, slices.Repeat([]int64{9}, 20)...), strip: 5},
		} {
			for _, one := range a.stripCalls() {
				code(t, fmt.Sprint(one.name, a.list, a.strip), checkCall(t, one), impl.ErrRange)
			}
		}
	}
	for _, long := range []int64{1, 2, 4999, impl.MaxLine} {
		for _, one := range (edgeAsk{list: []int64{long, 1, long}, strip: long}).stripCalls() {
			code(t, fmt.Sprint(one.name, long), checkCall(t, one), impl.OK)
		}
		_, got := impl.SpoolsFor(garden(), impl.Wear{0, 1, 0, 0, 1}, long)
		code(t, fmt.Sprint("holds ", long), got, impl.OK)
	}
}

// There may be MaxPieces pieces, and no more; that one of them is longer than the strip is told only then.
func TestMaxPieces(t *testing.T) {
	for count := range 20 {
		for _, long := range []int64{1, 5, 6, 5000} {
			for place := range max(1, count) {
				a := edgeAsk{list: slices.Repeat([]int64{5}, count), strip: 5}
				want := int64(impl.OK)
				if count > 0 {
					a.list[place] = long
					if long > 5 {
						want = impl.ErrNotFound
					}
				}
				if count > impl.MaxPieces {
					want = impl.ErrLimit
				}
				for _, one := range a.stripCalls() {
					code(t, fmt.Sprint(one.name, a.list), checkCall(t, one), want)
				}
			}
		}
	}
}

// P11: sides by kinds are four for each cell of grass, in all and at each one, and what lies beside them is told as it is.
func TestPromise11Sides(t *testing.T) {
	for l := range edgeLawns(500) {
		all, got := impl.SidesOf(l)
		code(t, "sides", got, impl.OK)
		sum := int64(0)
		for _, count := range all {
			sum += count
		}
		if want := sumBy(l); sum != 4*int64(len(grassOf(l))) || all != want {
			t.Fatalf("%q: %v, want %v", impl.LawnText(l), all, want)
		}
		for _, at := range grassOf(l) {
			one, got := impl.SidesAt(l, at)
			if want := sidesBy(l, at); got != impl.OK || one != want {
				t.Fatalf("%q at %v: %v (code %d), want %v", impl.LawnText(l), at, one, got, want)
			}
			for beside, count := range one {
				all[beside] -= count
			}
		}
		same(t, "sides of all cells", all, impl.Sides{})
	}
}

// P11: sides between two cells of grass are counted at both, all others once, on all small lawns.
func TestPromise11Between(t *testing.T) {
	for _, size := range [][2]int8{{1, 1}, {4, 1}, {1, 4}, {3, 2}} {
		for l := range everyLawn(size[0], size[1]) {
			var want impl.Sides
			grass := grassOf(l)
			for i, a := range grass {
				for _, b := range grass[i+1:] {
					if beside(a, b) {
						want[impl.LaGrass] += 2
					}
				}
				for _, b := range cellsOf(l) {
					if kind := kindOf(l, b); beside(a, b) && kind != impl.LaGrass {
						want[kind]++
					}
				}
			}
			want[4] = 4*int64(len(grass)) - sumOf(want[:4])
			if all, got := impl.SidesOf(l); got != impl.OK || all != want {
				t.Fatalf("%q: %v (code %d), want %v", impl.LawnText(l), all, got, want)
			}
		}
	}
}

// P11: no bed that is given up leaves a shorter edge, and none before it one that is as short; the edge is then as long as told.
func TestPromise11GiveUp(t *testing.T) {
	found := 0
	for l := range edgeLawns(400) {
		at, long, got := impl.GiveUp(l)
		wantAt, wantLong, wantCode := changeBy(l, impl.LaBed, impl.LaGrass, false)
		if at != wantAt || long != wantLong || got != wantCode {
			t.Fatalf("%q: %v, %d (code %d), want %v, %d (code %d)", impl.LawnText(l), at, long, got, wantAt, wantLong, wantCode)
		}
		if got != impl.OK {
			same(t, "beds", ofKind(l, impl.LaBed), []impl.Cell(nil))
			continue
		}
		found++
		same(t, "a bed", kindOf(l, at), int64(impl.LaBed))
		for _, bed := range ofKind(l, impl.LaBed) {
			edge, _ := impl.EdgeLong(withCell(l, bed, impl.LaGrass))
			if edge < long || edge == long && cellOrder(bed, at) < 0 || bed == at && edge != long {
				t.Fatalf("%q: %v, %d, but %v has %d", impl.LawnText(l), at, long, bed, edge)
			}
		}
	}
	if found < 400 {
		t.Errorf("only %d lawns have beds", found)
	}
}

// checkFewest compares the strips of pieces with all lists of strips.
func checkFewest(t *testing.T, list []int64, strip int64) {
	t.Helper()
	want, wantCount := fewestStripsBy(list, strip, everyStrips(len(list)))
	strips, count, got := impl.FewestStrips(list, strip)
	if got != impl.OK || !slices.Equal(strips, want) || count != wantCount {
		t.Fatalf("%v of %d: %v, %d (code %d), want %v, %d", list, strip, strips, count, got, want, wantCount)
	}
	if !fits(list, strips, strip) || count != different(strips) || count != leastStrips(list, strip) {
		t.Fatalf("%v of %d: %v, %d, but %d are enough", list, strip, strips, count, leastStrips(list, strip))
	}
	// What is cut in order is no better.
	if _, cuts, _ := impl.CutStrips(list, strip); cuts < count {
		t.Fatalf("%v of %d: %d, but in order %d", list, strip, count, cuts)
	}
}

// P12: no fewer strips are enough than told, and no list before it has as few: all lists of up to four pieces from short strips.
func TestPromise12AllPieces(t *testing.T) {
	for strip := int64(1); strip <= 6; strip++ {
		for count := range 5 {
			for numbers := range everyTrips(count, strip) {
				for i := range numbers {
					numbers[i]++
				}
				checkFewest(t, numbers, strip)
			}
		}
	}
}

// P12: pieces of any number and length.
func TestPromise12ManyPieces(t *testing.T) {
	random := rand.New(rand.NewSource(26))
	better := 0
	for n := range 400 {
		list, strip := randomPieces(random, 3+n%6)
		checkFewest(t, list, strip)
		_, cuts, _ := impl.CutStrips(list, strip)
		if _, count, _ := impl.FewestStrips(list, strip); count < cuts {
			better++
		}
	}
	if better < 50 {
		t.Errorf("only %d lists have fewer strips than in order", better)
	}
}

// P12: lists of pieces of which all strips can be full, so that only few lists are enough.
func TestPromise12Full(t *testing.T) {
	random := rand.New(rand.NewSource(27))
	for range 200 {
		strip := int64(4 + random.Intn(40))
		var list []int64
		for len(list) < impl.MaxPieces {
			first := 1 + random.Int63n(strip-2)
			second := 1 + random.Int63n(strip-first-1)
			if parts := []int64{first, second, strip - first - second}; len(list)+3 <= impl.MaxPieces {
				list = append(list, parts...)
			} else {
				list = append(list, first, strip-first)
			}
		}
		random.Shuffle(len(list), func(i, k int) { list[i], list[k] = list[k], list[i] })
		checkFewest(t, list, strip)
		_, count, _ := impl.FewestStrips(list, strip)
		same(t, fmt.Sprint(list), count, int64(3))
	}
}

// P12: of all lists with any numbers, also those not told by first pieces, none has fewer, and none with as few comes before it.
func TestPromise12AnyNumbers(t *testing.T) {
	random := rand.New(rand.NewSource(28))
	for n := range 150 {
		list, strip := randomPieces(random, 1+n%5)
		want, wantCount := fewestStripsBy(list, strip, everyTrips(len(list), int64(len(list))))
		strips, count, _ := impl.FewestStrips(list, strip)
		if !slices.Equal(strips, want) || count != wantCount {
			t.Fatalf("%v of %d: %v, %d, want %v, %d", list, strip, strips, count, want, wantCount)
		}
	}
}
