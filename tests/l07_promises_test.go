package tests

import (
	"fmt"
	"math/rand"
	"slices"
	"strings"
	"testing"

	"loop.example/g01405/impl"
)

// weedAsk is all that functions of weeds and rounds are told.
type weedAsk struct {
	patch
	after  impl.Weeds
	need   int64
	days   int64
	weeds  int64
	row    int64
	cuts   int64
	bound  int64
	each   int64
	rounds []impl.Round
	text   string
	told   string // a text of rounds
}

// weedCalls returns calls of all functions with a code for which weeds have to be valid.
func (a weedAsk) weedCalls() []call {
	one := func(result any, code int64) ([]any, int64) { return []any{result}, code }
	return []call{
		{"CountWeeds", func() ([]any, int64) { r, c := impl.CountWeeds(a.l, a.w); return one(r, c) }},
		{"SpreadOnce", func() ([]any, int64) { r, c := impl.SpreadOnce(a.l, a.w, a.need); return one(r, c) }},
		{"SpreadDays", func() ([]any, int64) { r, c := impl.SpreadDays(a.l, a.w, a.need, a.days); return one(r, c) }},
		{"DaysUntil", func() ([]any, int64) { r, c := impl.DaysUntil(a.l, a.w, a.need, a.weeds); return one(r, c) }},
		{"CutRow", func() ([]any, int64) { r, n, c := impl.CutRow(a.l, a.w, a.row); return []any{r, n}, c }},
		{"HoeRow", func() ([]any, int64) { r, n, c := impl.HoeRow(a.l, a.w, a.row); return []any{r, n}, c }},
		{"SpotsOf", func() ([]any, int64) { r, c := impl.SpotsOf(a.l, a.w); return one(r, c) }},
		{"RunRounds", func() ([]any, int64) {
			r, n, c := impl.RunRounds(a.l, a.w, a.need, a.rounds)
			return []any{r, n}, c
		}},
		{"BestRow", func() ([]any, int64) { r, n, c := impl.BestRow(a.l, a.w, a.need); return []any{r, n}, c }},
		{"FewestWeeds", func() ([]any, int64) {
			r, n, c := impl.FewestWeeds(a.l, a.w, a.need, a.cuts)
			return []any{r, n}, c
		}},
		{"FewestCuts", func() ([]any, int64) { r, c := impl.FewestCuts(a.l, a.w, a.need, a.bound); return one(r, c) }},
		{"MayBeFrom", func() ([]any, int64) { r, c := impl.MayBeFrom(a.l, a.w, a.after, a.need); return one(r, c) }},
		{"SeedFor", func() ([]any, int64) { r, c := impl.SeedFor(a.l, a.w, a.each); return one(r, c) }},
		{"MirrorWeeds", func() ([]any, int64) { r, c := impl.MirrorWeeds(a.l, a.w); return one(r, c) }},
	}
}

// calls returns calls of all functions.
func (a weedAsk) calls() []call {
	return append(a.weedCalls(), []call{
		{"ValidWeeds", func() ([]any, int64) { return []any{impl.ValidWeeds(a.l, a.w)}, impl.OK }},
		{"WeedsText", func() ([]any, int64) { return []any{impl.WeedsText(a.l, a.w)}, impl.OK }},
		{"ReadWeeds", func() ([]any, int64) { r, c := impl.ReadWeeds(a.l, a.text); return []any{r}, c }},
		{"RoundsText", func() ([]any, int64) { return []any{impl.RoundsText(a.rounds)}, impl.OK }},
		{"ReadRounds", func() ([]any, int64) { r, c := impl.ReadRounds(a.told); return []any{r}, c }},
	}...)
}

// someWeedAsk returns what may be asked of a patch, with one of some texts each: much of it right, much of it not.
func someWeedAsk(random *rand.Rand, p patch, texts, roundsTexts []string) weedAsk {
	some := func(least, most int64) int64 {
		if random.Intn(6) == 0 {
			return anyOf(random, append(noNumbers(most), least-1))
		}
		return least + random.Int63n(most-least+1)
	}
	a := weedAsk{patch: p, after: p.w, need: some(1, 4), days: some(0, 60), weeds: some(0, 100), row: some(0, max(0, int64(p.l.High)-1)), cuts: some(0, 4), bound: some(0, 100), each: some(0, 1000)}
	if random.Intn(2) == 0 {
		a.after[random.Intn(10)] ^= 1 << random.Intn(16)
	}
	if impl.ValidLawn(p.l) {
		a.rounds = randomRounds(random, p.l, anyOf(random, []int{0, 1, 3, 10, 60, 61, 70}))
	} else {
		a.rounds = roundsOf(0, 11, 9, 19)
	}
	a.text, a.told = anyOf(random, append(texts, weedsTextBy(middle()))), anyOf(random, append(roundsTexts, "c1 h0"))
	return a
}

// P1 (chapter 7): every function returns for all arguments, and the same each time; no argument is modified, nor what lies behind it.
func TestPromise1Weeds(t *testing.T) {
	random := rand.New(rand.NewSource(56))
	texts, roundsTexts := noWeedsTexts(), noRoundsTexts()
	var all []patch
	for p := range patches(80) {
		if p.l.Wide > 3 || p.l.High > 3 || random.Intn(4) == 0 {
			all = append(all, p)
		}
	}
	for _, p := range badPatches() {
		if random.Intn(6) == 0 {
			all = append(all, p)
		}
	}
	for _, p := range all {
		for range 3 {
			a := someWeedAsk(random, p, texts, roundsTexts)
			rounds, kept := roomy(a.rounds, impl.Round{Row: 99})
			a.rounds = rounds
			before := a
			for _, one := range a.calls() {
				checkCall(t, one)
				if !kept() || a.patch != before.patch || a.after != before.after {
					t.Fatalf("%s modifies an argument", one.name)
				}
			}
		}
	}
}

// P1: lists and texts with as many elements as there may be are no matter.
func TestWeedsManyElements(t *testing.T) {
	const many = 1000000
	p := middle()
	rounds := slices.Repeat(roundsOf(1), many)
	left, freed, got := impl.RunRounds(p.l, p.w, 1, rounds)
	same(t, "rounds", []any{left, freed, got}, []any{impl.Weeds{}, int64(0), int64(impl.ErrLimit)})
	same(t, "rounds", impl.RoundsText(rounds), "")
	// The last row is looked at, too.
	rounds[many-1].Row = 3
	left, freed, got = impl.RunRounds(p.l, p.w, 1, rounds)
	same(t, "rounds, no row", []any{left, freed, got}, []any{impl.Weeds{}, int64(0), int64(impl.ErrRange)})
	for _, text := range []string{strings.Repeat("c1 ", many/3), strings.Repeat("h", many), strings.Repeat("c 1", many/3), "c" + strings.Repeat("0", many-2) + "1", strings.Repeat(" ", many)} {
		read, got := impl.ReadRounds(text)
		same(t, "text of rounds", []any{len(read), got}, []any{0, int64(impl.ErrSyntax)})
	}
	for _, text := range []string{strings.Repeat("...\n", many/4), strings.Repeat("w", many), strings.Repeat("\n", many), weedsTextBy(p) + strings.Repeat(".", many-20)} {
		read, got := impl.ReadWeeds(p.l, text)
		same(t, "text of weeds", []any{read, got}, []any{impl.Weeds{}, int64(impl.ErrSyntax)})
	}
}

// P1: what is returned shares no memory with what is given, nor with what another call returns.
func TestWeedsNew(t *testing.T) {
	p := patchOf("w.", ".W")
	for range 2 {
		spots, _ := impl.SpotsOf(p.l, p.w)
		same(t, "spots", spots, []impl.Weeds{{1}, {0, 2}})
		spoilSlice(spots, impl.Weeds{9})
		rows, _, _ := impl.FewestWeeds(p.l, p.w, 2, 2)
		same(t, "rows", rows, []int64{0, 1})
		spoilSlice(rows, 9)
		rows, _ = impl.FewestCuts(p.l, p.w, 4, 1)
		same(t, "cuts", rows, []int64{0})
		spoilSlice(rows, 9)
		rounds, _ := impl.ReadRounds("c1 h0")
		same(t, "rounds", rounds, roundsOf(1, 10))
		spoilSlice(rounds, impl.Round{Row: 9})
	}
	rounds := roundsOf(0, 11)
	impl.RunRounds(p.l, p.w, 1, rounds)
	same(t, "given", rounds, roundsOf(0, 11))
	same(t, "patch", p, patchOf("w.", ".W"))
}

// weedFault is something that is wrong with what is asked, the code that it leads to, and the functions that have it.
type weedFault struct {
	code  int64
	make  func(a *weedAsk)
	names []string
}

// withNeed has all functions that are told how many cells beside are needed.
var withNeed = []string{"SpreadOnce", "SpreadDays", "DaysUntil", "RunRounds", "BestRow", "FewestWeeds", "FewestCuts", "MayBeFrom"}

// weedFaults returns all faults but lawns and weeds that are not valid.
func weedFaults() []weedFault {
	add := func(a *weedAsk, rounds ...impl.Round) { a.rounds = append(slices.Clone(a.rounds), rounds...) }
	return []weedFault{
		{impl.ErrNotFound, func(a *weedAsk) { a.weeds = 100 }, []string{"DaysUntil"}},
		{impl.ErrNotFound, func(a *weedAsk) { a.bound = 0 }, []string{"FewestCuts"}},
		{impl.ErrLimit, func(a *weedAsk) { add(a, make([]impl.Round, 60)...) }, []string{"RunRounds"}},
		{impl.ErrRange, func(a *weedAsk) { add(a, impl.Round{Row: 3}) }, []string{"RunRounds"}},
		{impl.ErrRange, func(a *weedAsk) { a.rounds = append([]impl.Round{{Row: -1, Hoed: true}}, a.rounds...) }, []string{"RunRounds"}},
		{impl.ErrRange, func(a *weedAsk) { a.need = 5 }, withNeed},
		{impl.ErrRange, func(a *weedAsk) { a.days = 61 }, []string{"SpreadDays"}},
		{impl.ErrRange, func(a *weedAsk) { a.weeds = 101 }, []string{"DaysUntil"}},
		{impl.ErrRange, func(a *weedAsk) { a.row = 3 }, []string{"CutRow", "HoeRow"}},
		{impl.ErrRange, func(a *weedAsk) { a.cuts = 5 }, []string{"FewestWeeds"}},
		{impl.ErrRange, func(a *weedAsk) { a.bound = -1 }, []string{"FewestCuts"}},
		{impl.ErrRange, func(a *weedAsk) { a.each = 1001 }, []string{"SeedFor"}},
	}
}

// soundWeedAsk returns what all functions can do.
func soundWeedAsk() weedAsk {
	return weedAsk{
		patch: patchOf("w.=", "WW.", "..T"), after: impl.Weeds{1, 3}, need: 2, days: 3, weeds: 2, row: 1, cuts: 2, bound: 4, each: 7,
		rounds: roundsOf(0, 11), text: "w..\nw..\n...\n", told: "c1 h0",
	}
}

// Of several errors the one that is told first comes first, in all functions, with each set of faults.
func TestWeedErrorOrder(t *testing.T) {
	all := weedFaults()
	for set := range 1 << len(all) {
		a, wants := soundWeedAsk(), map[string]int64{}
		for i, one := range all {
			if set>>i&1 == 0 {
				continue
			}
			one.make(&a)
			for _, name := range one.names {
				if want := wants[name]; want == impl.OK || one.code < want {
					wants[name] = one.code
				}
			}
		}
		for _, one := range a.calls() {
			if _, got := one.results(); got != wants[one.name] {
				t.Fatalf("%s, faults %012b: code %d, want %d", one.name, set, got, wants[one.name])
			}
		}
		bad := a
		bad.w[2] |= 4
		if set%2 == 1 {
			bad.l, bad.w = withCell(a.l, xy(9, 9), 1), a.w
		}
		for _, one := range bad.weedCalls() {
			if results, got := one.results(); got != impl.ErrInvalid {
				t.Fatalf("%s, not valid, faults %012b: %v (code %d)", one.name, set, results, got)
			}
		}
		bad = a
		bad.after[0] = 4
		if may, got := impl.MayBeFrom(bad.l, bad.w, bad.after, bad.need); may || got != impl.ErrInvalid {
			t.Fatalf("MayBeFrom, after not valid, faults %012b: %v (code %d)", set, may, got)
		}
	}
}

// P1, conventions: lawns and weeds that are not valid are told before any other error; all else is zero then.
func TestWeedsInvalidFirst(t *testing.T) {
	for _, p := range badPatches() {
		wrong := weedAsk{patch: p, need: 5, days: -1, weeds: 101, row: 10, cuts: 5, bound: -1, each: -1, rounds: slices.Repeat([]impl.Round{{Row: -1}}, 61)}
		right := weedAsk{patch: p, need: 1}
		for _, a := range []weedAsk{wrong, right} {
			for _, one := range a.weedCalls() {
				code(t, fmt.Sprint(one.name, p.l, p.w), checkCall(t, one), impl.ErrInvalid)
			}
		}
		same(t, "text", impl.WeedsText(p.l, p.w), "")
		same(t, "valid", impl.ValidWeeds(p.l, p.w), false)
		// After has to be valid as before has to, whatever it is.
		for _, need := range []int64{0, 1, 4, 5} {
			may, got := impl.MayBeFrom(p.l, impl.Weeds{}, p.w, need)
			same(t, "after", []any{may, got}, []any{false, int64(impl.ErrInvalid)})
			may, got = impl.MayBeFrom(p.l, p.w, p.w, need)
			same(t, "both", []any{may, got}, []any{false, int64(impl.ErrInvalid)})
		}
	}
}

// Numbers that are too small or too great, also by far, each one by itself, and those at the limits.
func TestWeedsRange(t *testing.T) {
	// Where all weeds are there now, and where there are none, no number within its limits has an error.
	full, bare := overgrown(fullLawn(10, 10, 0)), patch{l: fullLawn(10, 10, 0)}
	for _, one := range []struct {
		p           patch
		names       []string
		least, most int64
		set         func(a *weedAsk, n int64)
	}{
		{full, withNeed, 1, 4, func(a *weedAsk, n int64) { a.need = n }},
		{full, []string{"SpreadDays"}, 0, 60, func(a *weedAsk, n int64) { a.days = n }},
		{full, []string{"DaysUntil"}, 0, 100, func(a *weedAsk, n int64) { a.weeds = n }},
		{full, []string{"CutRow", "HoeRow"}, 0, 9, func(a *weedAsk, n int64) { a.row = n }},
		{full, []string{"FewestWeeds"}, 0, 4, func(a *weedAsk, n int64) { a.cuts = n }},
		{full, []string{"SeedFor"}, 0, 1000, func(a *weedAsk, n int64) { a.each = n }},
		{bare, []string{"FewestCuts"}, 0, 1<<63 - 1, func(a *weedAsk, n int64) { a.bound = n }},
	} {
		wrong := []int64{-1, -2, -1 << 63, -1<<63 + 1, -1 << 32, -256, one.least - 1}
		if one.most < 1<<62 {
			wrong = append(wrong, noNumbers(one.most)...)
		}
		check := func(n, want int64) {
			t.Helper()
			a := weedAsk{patch: one.p, after: one.p.w, need: 1, bound: 100}
			one.set(&a, n)
			for _, c := range a.weedCalls() {
				if slices.Contains(one.names, c.name) {
					code(t, fmt.Sprint(c.name, " ", n), checkCall(t, c), want)
				} else {
					code(t, fmt.Sprint(c.name, " ", n), checkCall(t, c), impl.OK)
				}
			}
		}
		for _, n := range wrong {
			check(n, impl.ErrRange)
		}
		check(one.least, impl.OK)
		check(one.least+1, impl.OK)
		check(one.most, impl.OK)
		check(one.most-1, impl.OK)
	}
}

// P15: weeds become no fewer without cutting, nor go elsewhere; with less need they are no fewer either.
func TestPromise15Spread(t *testing.T) {
	more, still := 0, 0
	for p := range patches(200) {
		var before [10]uint16
		for need := int64(4); need >= 1; need-- {
			now := p
			for days := range int64(15) {
				later, got := impl.SpreadDays(p.l, p.w, need, days)
				code(t, "days", got, impl.OK)
				for y, row := range now.w {
					if later[y]&row != row {
						t.Fatalf("%v, need %d: %v behind %v", p, need, patch{p.l, later}, now)
					}
				}
				if count, _ := impl.CountWeeds(p.l, later); count < now.count() || !impl.ValidWeeds(p.l, later) {
					t.Fatalf("%v, need %d, %d days: %d, %v", p, need, days, count, later)
				}
				if later == now.w {
					still++
				} else {
					more++
				}
				now.w = later
			}
			for y, row := range before {
				if now.w[y]&row != row {
					t.Fatalf("%v: fewer with need %d than with %d", p, need, need+1)
				}
			}
			before = now.w
		}
	}
	if more < 1000 || still < 1000 {
		t.Errorf("%d become more, %d do not", more, still)
	}
}

// P15: it takes as many days as told until there are so many weeds, and not a day less; all that are there now take none.
func TestPromise15Days(t *testing.T) {
	found := 0
	for p := range patches(100) {
		for need := int64(1); need <= 4; need++ {
			last := int64(0)
			for weeds := range int64(101) {
				days, got := impl.DaysUntil(p.l, p.w, need, weeds)
				if got != impl.OK {
					code(t, "never", got, impl.ErrNotFound)
					continue
				}
				if days < last || (days == 0) != (weeds <= p.count()) {
					t.Fatalf("%v, need %d: %d days for %d", p, need, days, weeds)
				}
				last = days
				if days == 0 || days > 60 {
					continue
				}
				found++
				late, _ := impl.SpreadDays(p.l, p.w, need, days)
				early, _ := impl.SpreadDays(p.l, p.w, need, days-1)
				if (patch{p.l, late}).count() < weeds || (patch{p.l, early}).count() >= weeds {
					t.Fatalf("%v, need %d: %d days for %d", p, need, days, weeds)
				}
			}
		}
	}
	if found < 1000 {
		t.Errorf("only %d", found)
	}
}

// P15: spots have all weeds, each cell once; cells beside each other are in one spot, all cells of which can be reached, and spots are ordered.
func TestPromise15Spots(t *testing.T) {
	several := 0
	for p := range patches(500) {
		spots, got := impl.SpotsOf(p.l, p.w)
		if want := spotsBy(p); got != impl.OK || !slices.Equal(spots, want) {
			t.Fatalf("%v: %v (code %d), want %v", p, spots, got, want)
		}
		index := map[impl.Cell]int{}
		var all, first []impl.Cell
		for i, spot := range spots {
			cells := patch{p.l, spot}.weedy()
			if len(cells) == 0 || !inOnePiece(cells) {
				t.Fatalf("%v: spot %v", p, spot)
			}
			for _, at := range cells {
				index[at] = i
			}
			all, first = append(all, cells...), append(first, cells[0])
		}
		if !slices.IsSortedFunc(first, cellOrder) {
			t.Fatalf("%v: spots %v", p, spots)
		}
		slices.SortFunc(all, cellOrder)
		same(t, "all weeds", all, p.weedy())
		for a, i := range index {
			for b, k := range index {
				if beside(a, b) && i != k {
					t.Fatalf("%v: %v and %v are in two spots", p, a, b)
				}
			}
		}
		if len(spots) > 1 {
			several++
		}
	}
	if several < 200 {
		t.Errorf("only %d have several spots", several)
	}
}

// checkPlans compares the fewest weeds of all numbers of cuts, and the fewest cuts for all bounds, with what all lists of rows leave, run round by round.
func checkPlans(t *testing.T, p patch, need, most int64) {
	t.Helper()
	// The first list of each length that leaves so many weeds, or fewer.
	firsts := map[int64][]int64{}
	for cuts := range most + 1 {
		var best []int64
		fewest := int64(101)
		for rows := range everyRows(p.l.High, cuts) {
			var rounds []impl.Round
			for _, row := range rows {
				rounds = append(rounds, impl.Round{Row: int8(row)})
			}
			left, _, got := impl.RunRounds(p.l, p.w, need, rounds)
			code(t, "rounds", got, impl.OK)
			count := patch{p.l, left}.count()
			if left != cutsBy(p, need, rows).w {
				t.Fatalf("%v, need %d, %v: %v", p, need, rows, left)
			}
			if count < fewest {
				best, fewest = slices.Clone(rows), count
			}
			for bound := count; bound <= 100; bound++ {
				if _, known := firsts[bound]; known {
					break
				}
				firsts[bound] = slices.Clone(rows)
			}
		}
		rows, weeds, got := impl.FewestWeeds(p.l, p.w, need, cuts)
		if got != impl.OK || weeds != fewest || !slices.Equal(rows, best) {
			t.Fatalf("%v, need %d, %d cuts: %v, %d (code %d), want %v, %d", p, need, cuts, rows, weeds, got, best, fewest)
		}
	}
	for bound := range int64(101) {
		rows, got := impl.FewestCuts(p.l, p.w, need, bound)
		want, known := firsts[bound]
		switch {
		case known && (got != impl.OK || !slices.Equal(rows, want)):
			t.Fatalf("%v, need %d, bound %d: %v (code %d), want %v", p, need, bound, rows, got, want)
		case !known && got == impl.OK && int64(len(rows)) <= most:
			t.Fatalf("%v, need %d, bound %d: %v", p, need, bound, rows)
		case !known && most == impl.MaxCuts:
			same(t, "none", []any{len(rows), got}, []any{0, int64(impl.ErrNotFound)})
		}
	}
}

// P16: no rows leave fewer weeds than told, and none before them as few: all small patches, with all cuts.
func TestPromise16AllPatches(t *testing.T) {
	for _, size := range [][2]int{{1, 1}, {2, 1}, {1, 2}, {1, 3}, {2, 2}} {
		for p := range everyPatch(size[0], size[1], ".w#WT") {
			for need := int64(1); need <= 3; need++ {
				checkPlans(t, p, need, impl.MaxCuts)
			}
		}
	}
}

// P16: patches of all sizes, with all lists of up to two rows, and of up to four where there are few rows.
func TestPromise16Patches(t *testing.T) {
	random := rand.New(rand.NewSource(57))
	for l := range weedyLawns(120) {
		most := int64(2)
		if l.High <= 4 {
			most = impl.MaxCuts
		}
		checkPlans(t, randomPatch(random, l), 1+random.Int63n(4), most)
	}
}

// checkOutcomes compares the fewest weeds and the fewest cuts with all that can be left, day by day.
func checkOutcomes(t *testing.T, p patch, need int64) {
	t.Helper()
	for cuts := range int64(impl.MaxCuts) + 1 {
		want, wantWeeds := fewestWeedsBy(p, need, cuts)
		rows, weeds, got := impl.FewestWeeds(p.l, p.w, need, cuts)
		if got != impl.OK || weeds != wantWeeds || !slices.Equal(rows, want) {
			t.Fatalf("%v, need %d, %d cuts: %v, %d (code %d), want %v, %d", p, need, cuts, rows, weeds, got, want, wantWeeds)
		}
		if left := cutsBy(p, need, rows).count(); left != weeds {
			t.Fatalf("%v, need %d, %v leave %d, not %d", p, need, rows, left, weeds)
		}
		for _, bound := range []int64{weeds - 1, weeds, weeds + 1} {
			if bound < 0 {
				continue
			}
			want, wantCode := fewestCutsBy(p, need, bound)
			rows, got := impl.FewestCuts(p.l, p.w, need, bound)
			if got != wantCode || !slices.Equal(rows, want) {
				t.Fatalf("%v, need %d, bound %d: %v (code %d), want %v (code %d)", p, need, bound, rows, got, want, wantCode)
			}
		}
	}
}

// P16: all cuts on patches of any size, up to 10 by 10.
func TestPromise16Outcomes(t *testing.T) {
	random := rand.New(rand.NewSource(58))
	for l := range weedyLawns(60) {
		p := patch{l: l}
		for _, at := range mayGrow(l) {
			if random.Intn(4) == 0 {
				p = p.with(at)
			}
		}
		if l.High > 7 && l.Wide*l.High < 100 {
			continue
		}
		checkOutcomes(t, p, 1+random.Int63n(3))
	}
	few := patch{l: fullLawn(10, 10, 0)}.with(xy(4, 4)).with(xy(7, 2))
	checkOutcomes(t, few, 1)
	checkOutcomes(t, longPairs(), 2)
}

// P16: no row that is cut today leaves fewer weeds tomorrow, and none before it as few.
func TestPromise16BestRow(t *testing.T) {
	later := 0
	for p := range patches(400) {
		for need := int64(1); need <= 4; need++ {
			row, weeds, got := impl.BestRow(p.l, p.w, need)
			if want, wantWeeds := bestRowBy(p, need); got != impl.OK || row != want || weeds != wantWeeds {
				t.Fatalf("%v, need %d: %d, %d (code %d), want %d, %d", p, need, row, weeds, got, want, wantWeeds)
			}
			for other := range int64(p.l.High) {
				cut, _, _ := impl.CutRow(p.l, p.w, other)
				grown, _ := impl.SpreadOnce(p.l, cut, need)
				count, _ := impl.CountWeeds(p.l, grown)
				if count < weeds || count == weeds && other < row || other == row && count != weeds {
					t.Fatalf("%v, need %d: row %d with %d, but %d with %d", p, need, row, weeds, other, count)
				}
			}
			if row > 0 {
				later++
			}
		}
	}
	if later < 500 {
		t.Errorf("only %d times another row than the first", later)
	}
}

// lettersBy tells how many letters a way needs at least to mow all grass from a cell on, or -1 if there is none: all stands that can be reached are gone through.
func lettersBy(l impl.Lawn, from impl.Cell) int {
	type stop struct {
		at   impl.Cell
		mown string
	}
	grass := grassOf(l)
	mow := func(mown string, at impl.Cell) string {
		all := []byte(mown)
		if i := slices.Index(grass, at); i >= 0 {
			all[i] = 'x'
		}
		return string(all)
	}
	now := []stop{{from, mow(strings.Repeat(".", len(grass)), from)}}
	known := map[stop]bool{now[0]: true}
	for count := 0; len(now) > 0; count++ {
		var next []stop
		for _, one := range now {
			if !strings.Contains(one.mown, ".") {
				return count
			}
			for _, letter := range []byte(letters) {
				to := gone(one.at, letter)
				after := stop{to, mow(one.mown, to)}
				if hasOpen(l, to) && !known[after] {
					known[after] = true
					next = append(next, after)
				}
			}
		}
		now = next
	}
	return -1
}

// P17: what all chapters promise, on the same lawns: runs of grass have each cell once, sides are four for each of them,
// no way that mows them all is shorter than the shortest one, and no rows leave fewer weeds than told.
func TestPromise17(t *testing.T) {
	random := rand.New(rand.NewSource(59))
	lawns := []impl.Lawn{lawnOf("."), lawnOf("#"), lawnOf("T="), lawnOf("...."), lawnOf(".", ".", "#", "."), example(), mowing(), garden(), hedge(), fullLawn(3, 3, 0), fullLawn(4, 4, 3)}
	lawns = slices.AppendSeq(lawns, everyLawn(2, 2))
	lawns = slices.AppendSeq(lawns, smallOpenLawns(40))
	ways := 0
	for _, l := range lawns {
		grass := grassOf(l)
		for _, across := range []bool{true, false} {
			runs, got := impl.RunsOf(l, across)
			code(t, "runs", got, impl.OK)
			var cells []impl.Cell
			for _, run := range runs {
				cells = append(cells, cellsOfRun(run, across)...)
			}
			slices.SortFunc(cells, cellOrder)
			same(t, impl.LawnText(l), cells, grass)
		}
		sides, got := impl.SidesOf(l)
		code(t, "sides", got, impl.OK)
		same(t, impl.LawnText(l), sumOf(sides[:]), 4*int64(len(grass)))
		for _, from := range openIn(l) {
			way, got := impl.ShortestWhole(l, from)
			want := lettersBy(l, from)
			if want < 0 {
				code(t, "way", got, impl.ErrNotFound)
				continue
			}
			mown, mownCode := impl.MownBy(l, from, way)
			if got != impl.OK || len(way) != want || mownCode != impl.OK || !slices.Equal(mown, grass) {
				t.Fatalf("%q from %v: %s (code %d), but %d letters are enough", impl.LawnText(l), from, way, got, want)
			}
			ways++
		}
		checkPlans(t, randomPatch(random, l), 1+random.Int63n(4), 2)
	}
	if ways < 500 {
		t.Errorf("only %d ways", ways)
	}
}
