package tests

import (
	"fmt"
	"math/rand"
	"slices"
	"strings"
	"testing"

	"loop.example/g01405/impl"
)

// planCalls returns calls of all functions with a plan.
func planCalls(one lawnDays, plan []int64) []call {
	return []call{
		{"HeightsOf", func() ([]any, int64) { r, c := impl.HeightsOf(one.start, one.cut, one.list, plan); return []any{r}, c }},
		{"ClippingsOf", func() ([]any, int64) {
			r, c := impl.ClippingsOf(one.start, one.cut, one.list, plan)
			return []any{r}, c
		}},
		{"FirstTooLong", func() ([]any, int64) {
			r, c := impl.FirstTooLong(one.start, one.cut, one.most, one.list, plan)
			return []any{r}, c
		}},
	}
}

// findCalls returns calls of all functions that look for plans.
func findCalls(one lawnDays, mows int64) []call {
	return []call{
		{"LatePlan", func() ([]any, int64) {
			r, c := impl.LatePlan(one.start, one.cut, one.most, one.list)
			return []any{r}, c
		}},
		{"FewestMows", func() ([]any, int64) {
			r, c := impl.FewestMows(one.start, one.cut, one.most, one.list)
			return []any{r}, c
		}},
		{"CountPlans", func() ([]any, int64) {
			r, c := impl.CountPlans(one.start, one.cut, one.most, one.list, mows)
			return []any{r}, c
		}},
		{"BestCut", func() ([]any, int64) { r, c := impl.BestCut(one.start, one.most, one.list, mows); return []any{r}, c }},
	}
}

// rainCalls returns calls of all functions with weather and no grass that have a code.
func rainCalls(list []impl.Weather, days, rain, warm, a, b int64) []call {
	return []call{
		{"GrowthAll", func() ([]any, int64) { r, c := impl.GrowthAll(list); return []any{r}, c }},
		{"DriestSpell", func() ([]any, int64) { f, n, c := impl.DriestSpell(list); return []any{f, n}, c }},
		{"WettestDays", func() ([]any, int64) { f, n, c := impl.WettestDays(list, days); return []any{f, n}, c }},
		{"SeedDays", func() ([]any, int64) { r, c := impl.SeedDays(list, days, rain, warm); return []any{r}, c }},
		{"SwapDays", func() ([]any, int64) { r, c := impl.SwapDays(list, a, b); return []any{r}, c }},
	}
}

// weatherCalls returns calls of all functions with weather and without a code, or with one day of it.
func weatherCalls(list, other []impl.Weather) []call {
	calls := []call{
		{"ValidWeather", func() ([]any, int64) { return []any{impl.ValidWeather(list)}, impl.OK }},
		{"SameWeather", func() ([]any, int64) { return []any{impl.SameWeather(list, other)}, impl.OK }},
		{"WeatherText", func() ([]any, int64) { return []any{impl.WeatherText(list)}, impl.OK }},
	}
	if len(list) > 0 {
		calls = append(calls, call{"GrowthOf", func() ([]any, int64) { r, c := impl.GrowthOf(list[0]); return []any{r}, c }})
	}
	return calls
}

// boxCall returns the call of the function with numbers of clippings.
func boxCall(clips []int64, cells, box int64) call {
	return call{"BoxesFor", func() ([]any, int64) { r, c := impl.BoxesFor(clips, cells, box); return []any{r}, c }}
}

// readCall returns the call of the function with a text.
func readCall(text string) call {
	return call{"ReadWeather", func() ([]any, int64) { r, c := impl.ReadWeather(text); return []any{r}, c }}
}

// P1 (chapter 3): every function returns for all arguments, and the same each time; neither weather nor plans are modified, nor what lies behind them.
func TestPromise1Grass(t *testing.T) {
	var lists [][]impl.Weather
	for list := range manyWeathers(20) {
		lists = append(lists, list)
	}
	for _, list := range badWeathers() {
		lists = append(lists, list)
	}
	numbers := []int64{-1 << 63, -1, 0, 1, 2, 5, 14, 29, 30, 31, 40, 41, 50, 51, 200, 201, 10000, 10001, 1 << 32, 1<<63 - 1}
	plans := append(noPlans(3), nil, []int64{0}, []int64{0, 1, 2}, []int64{1, 29}, make([]int64, 100000))
	random := rand.New(rand.NewSource(8))
	number := func() int64 { return numbers[random.Intn(len(numbers))] }
	for i, given := range lists {
		list, keptList := roomy(given, impl.Weather{Rain: 3, Warm: 3})
		other, keptOther := roomy(lists[(i+1)%len(lists)], impl.Weather{Rain: 4, Warm: 4})
		for _, each := range plans {
			plan, keptPlan := roomy(each, 7)
			one := lawnDays{number(), number(), number(), list}
			if random.Intn(2) == 0 {
				one.start, one.cut, one.most = int64(random.Intn(201)), int64(random.Intn(201)), int64(random.Intn(201))
			}
			calls := append(planCalls(one, plan), findCalls(one, number())...)
			calls = append(calls, rainCalls(list, number(), number(), number(), number(), number())...)
			calls = append(calls, weatherCalls(list, other)...)
			calls = append(calls, boxCall(plan, number(), number()), boxCall(plan, 100, 1))
			for _, one := range calls {
				checkCall(t, one)
				if !keptList() || !keptOther() || !keptPlan() {
					t.Fatalf("%s modifies an argument", one.name)
				}
			}
		}
	}
	for _, text := range append(noWeathers(), "", "0/0", "50/40 7/7") {
		checkCall(t, readCall(text))
	}
}

// P1: what is returned shares no memory with what is given, also if nothing is exchanged.
func TestSwapDaysIsNew(t *testing.T) {
	list, kept := roomy(growing(), impl.Weather{Rain: 3})
	swapped, _ := impl.SwapDays(list, 1, 1)
	spoilSlice(swapped, impl.Weather{Rain: 99})
	same(t, "kept", kept(), true)
}

// P1, conventions: weather that is not valid is told before any other error.
func TestGrassInvalidFirst(t *testing.T) {
	for name, list := range badWeathers() {
		for _, number := range append(noHeights(), 0, 5) {
			one := lawnDays{number, number, number, list}
			calls := append(findCalls(one, number), rainCalls(list, number, number, number, number, number)...)
			for _, plan := range append(noPlans(int64(len(list))), nil, []int64{0}) {
				calls = append(calls, planCalls(one, plan)...)
			}
			for _, one := range calls {
				code(t, one.name+", "+name, checkCall(t, one), impl.ErrInvalid)
			}
		}
	}
}

// Each number of grass that is no height is told before wrong plans, and before what cannot be found.
func TestGrassRange(t *testing.T) {
	uses := map[string][3]bool{
		"HeightsOf": {true, true, false}, "ClippingsOf": {true, true, false}, "FirstTooLong": {true, true, true},
		"LatePlan": {true, true, true}, "FewestMows": {true, true, true}, "CountPlans": {true, true, true}, "BestCut": {true, false, true},
	}
	for _, bad := range noHeights() {
		for which := range 3 {
			for _, list := range [][]impl.Weather{nil, growing(), sameDays(30, 50, 40)} {
				one := lawnDays{5, 5, 5, list}
				*[]*int64{&one.start, &one.cut, &one.most}[which] = bad
				calls := findCalls(one, 1)
				for _, plan := range append(noPlans(int64(len(list))), nil) {
					calls = append(calls, planCalls(one, plan)...)
				}
				for _, each := range calls {
					if uses[each.name][which] {
						code(t, fmt.Sprintf("%s, %d", each.name, bad), checkCall(t, each), impl.ErrRange)
					}
				}
			}
		}
	}
	// Heights may be as little and as great as they can be.
	for _, start := range []int64{0, impl.MaxLong} {
		for _, cut := range []int64{0, impl.MaxLong} {
			for _, most := range []int64{0, impl.MaxLong} {
				one := lawnDays{start, cut, most, nil}
				for _, each := range append(planCalls(one, nil), findCalls(one, 0)...) {
					want := int64(impl.OK)
					if each.name == "FirstTooLong" {
						want = impl.ErrNotFound
					}
					code(t, each.name, checkCall(t, each), want)
				}
			}
		}
	}
}

// Plans that are none, for weather of several lengths.
func TestNoPlans(t *testing.T) {
	for _, days := range []int{0, 1, 2, 3, 29, 30} {
		one := lawnDays{10, 5, 14, sameDays(days, 15, 27)}
		for _, plan := range append(noPlans(int64(days)), append([]int64{0}, everyPlan(6)[63]...)) {
			for _, each := range planCalls(one, plan) {
				code(t, fmt.Sprintf("%s of %.60s", each.name, fmt.Sprint(plan)), checkCall(t, each), impl.ErrState)
			}
		}
		all := make([]int64, days)
		for i := range all {
			all[i] = int64(i)
		}
		for _, each := range planCalls(one, all)[:2] {
			code(t, each.name, checkCall(t, each), impl.OK)
		}
		code(t, "never too high", checkCall(t, planCalls(one, all)[2]), impl.ErrNotFound)
		code(t, "one day more", checkCall(t, planCalls(one, append(all, int64(days)))[0]), impl.ErrState)
	}
}

// Of several errors the one that is told first comes first: of the weather, of numbers, of the plan, and then that there is nothing.
func TestGrassErrorOrder(t *testing.T) {
	for wrong := range 1 << 5 {
		has := func(i int) bool { return wrong>>i&1 == 1 }
		one := lawnDays{10, 5, 9, growing()}
		plan, mows := []int64{0}, int64(3)
		if has(4) {
			// Nothing is too high with this; nothing is enough with most behind it.
			one.most = 200
		}
		if has(3) {
			plan = []int64{1, 0}
		}
		if has(2) {
			mows = 31
		}
		if has(1) {
			one.start = -1
		}
		if has(0) {
			one.list = append(growing(), impl.Weather{Warm: 41})
		}
		for _, each := range append(planCalls(one, plan), findCalls(one, mows)...) {
			want, counts := int64(impl.OK), each.name == "CountPlans" || each.name == "BestCut"
			withPlan := slices.Contains([]string{"HeightsOf", "ClippingsOf", "FirstTooLong"}, each.name)
			switch {
			case has(0):
				want = impl.ErrInvalid
			case has(1), counts && has(2):
				want = impl.ErrRange
			case withPlan && has(3):
				want = impl.ErrState
			case each.name == "FirstTooLong" && has(4):
				want = impl.ErrNotFound
			}
			code(t, fmt.Sprintf("%s, wrong %05b", each.name, wrong), checkCall(t, each), want)
			// With 3 at most no plan is enough.
			if !withPlan && each.name != "CountPlans" {
				if want == impl.OK {
					want = impl.ErrNotFound
				}
				none := one
				none.most = 3
				for _, other := range findCalls(none, mows) {
					if other.name == each.name {
						code(t, fmt.Sprintf("%s, wrong %05b, no plan", each.name, wrong), checkCall(t, other), want)
					}
				}
			}
		}
	}
}

// How often is mown is 0 to MaxWeather, also if there are fewer days.
func TestMowsRange(t *testing.T) {
	for _, one := range []lawnDays{{10, 5, 14, growing()}, {10, 5, 3, growing()}, {0, 0, 0, nil}, {200, 200, 200, sameDays(30, 50, 40)}} {
		for _, mows := range []int64{-1, 31, -1 << 63, 1<<63 - 1, 1 << 32, 256} {
			for _, each := range findCalls(one, mows)[2:] {
				code(t, fmt.Sprintf("%s, %d", each.name, mows), checkCall(t, each), impl.ErrRange)
			}
		}
		for mows := int64(0); mows <= impl.MaxWeather; mows++ {
			code(t, "CountPlans", checkCall(t, findCalls(one, mows)[2]), impl.OK)
		}
	}
}

// The numbers of clippings, of cells and of what a box holds.
func TestBoxesErrors(t *testing.T) {
	long := make([]int64, 31)
	for _, one := range []struct {
		clips      []int64
		cells, box int64
		want       int64
	}{
		{make([]int64, 30), 100, 10000, impl.OK},
		{[]int64{0, 200}, 0, 1, impl.OK},
		{nil, -1, 1, impl.ErrRange},
		{nil, 101, 1, impl.ErrRange},
		{nil, 0, 0, impl.ErrRange},
		{nil, 0, -1, impl.ErrRange},
		{nil, 0, 10001, impl.ErrRange},
		{nil, 1 << 62, 1 << 62, impl.ErrRange},
		{nil, -1 << 63, 1, impl.ErrRange},
		{nil, 1, -1 << 63, impl.ErrRange},
		{[]int64{-1}, 1, 1, impl.ErrRange},
		{[]int64{201}, 1, 1, impl.ErrRange},
		{[]int64{0, 5, 201}, 1, 1, impl.ErrRange},
		{[]int64{-1 << 63}, 100, 1, impl.ErrRange},
		{[]int64{1<<63 - 1}, 100, 1, impl.ErrRange},
		{long, 1, 1, impl.ErrLimit},
		{make([]int64, 100000), 1, 1, impl.ErrLimit},
		// What is out of range is told before what is too much.
		{long, 101, 1, impl.ErrRange},
		{long, 1, 0, impl.ErrRange},
		{append(long, 201), 1, 1, impl.ErrRange},
		{append(long, -1), 1, 1, impl.ErrRange},
		{append([]int64{-1}, long...), 1, 1, impl.ErrRange},
	} {
		code(t, fmt.Sprintf("%.60s %d %d", fmt.Sprint(one.clips), one.cells, one.box), checkCall(t, boxCall(one.clips, one.cells, one.box)), one.want)
	}
}

// Numbers of days, of rain and of warmth that are out of range are told before what cannot be found.
func TestRainRange(t *testing.T) {
	for _, list := range [][]impl.Weather{nil, growing(), sameDays(30, 50, 40)} {
		for _, days := range []int64{0, -1, 31, -1 << 63, 1<<63 - 1, 1 << 32} {
			calls := rainCalls(list, days, 0, 0, 0, 0)
			code(t, "WettestDays", checkCall(t, calls[2]), impl.ErrRange)
			code(t, "SeedDays", checkCall(t, calls[3]), impl.ErrRange)
		}
		for _, bad := range []int64{-1, 51, 256, -1 << 63, 1<<63 - 1} {
			code(t, "rain", checkCall(t, rainCalls(list, 1, bad, 0, 0, 0)[3]), impl.ErrRange)
			code(t, "warmth", checkCall(t, rainCalls(list, 1, 0, bad, 0, 0)[3]), impl.ErrRange)
		}
		code(t, "warmth 41", checkCall(t, rainCalls(list, 1, 0, 41, 0, 0)[3]), impl.ErrRange)
		code(t, "greatest", checkCall(t, rainCalls(list, 30, 50, 40, 0, 0)[3]), impl.OK)
		code(t, "least", checkCall(t, rainCalls(list, 1, 0, 0, 0, 0)[3]), impl.OK)
		for _, bad := range []int64{-1, int64(len(list)), 31, -1 << 63, 1<<63 - 1, 1 << 32} {
			for _, other := range []int64{0, int64(len(list)) - 1, bad} {
				code(t, "first day", checkCall(t, rainCalls(list, 1, 0, 0, bad, other)[4]), impl.ErrRange)
				code(t, "second day", checkCall(t, rainCalls(list, 1, 0, 0, other, bad)[4]), impl.ErrRange)
			}
		}
	}
}

// P6: clippings and heights sum up to growth, on every day.
func TestPromise6(t *testing.T) {
	random := rand.New(rand.NewSource(9))
	check := func(one lawnDays, plan []int64) {
		t.Helper()
		heights, got := impl.HeightsOf(one.start, one.cut, one.list, plan)
		code(t, "heights", got, impl.OK)
		clips, got := impl.ClippingsOf(one.start, one.cut, one.list, plan)
		code(t, "clippings", got, impl.OK)
		growths, got := impl.GrowthAll(one.list)
		code(t, "growth", got, impl.OK)
		if len(heights) != len(one.list) || len(growths) != len(one.list) || len(clips) != len(plan) {
			t.Fatalf("%v, plan %v: heights %v, growth %v, clippings %v", one, plan, heights, growths, clips)
		}
		same(t, "growth of all days", sumOf(growths), grownOver(one.list))
		off := 0
		for day := range one.list {
			if off < len(plan) && plan[off] == int64(day) {
				off++
			}
			if one.start+sumOf(growths[:day+1]) != heights[day]+sumOf(clips[:off]) {
				t.Fatalf("%v, plan %v, day %d: heights %v, growth %v, clippings %v", one, plan, day, heights, growths, clips)
			}
		}
		if slices.ContainsFunc(clips, func(clip int64) bool { return clip < 0 }) {
			t.Fatalf("%v, plan %v: clippings %v", one, plan, clips)
		}
	}
	for one := range shortSeasons(80, 6) {
		for _, plan := range everyPlan(len(one.list)) {
			check(one, plan)
		}
	}
	for list := range manyWeathers(300) {
		one := lawnDays{int64(random.Intn(201)), int64(random.Intn(201)), 0, list}
		check(one, randomPlan(random, len(list)))
		check(one, nil)
	}
}

// bestOf tells, of all plans, the first one with the fewest days, and how many with each number of days are enough.
func bestOf(one lawnDays) (best []int64, counts [31]int64, found bool) {
	for _, plan := range everyPlan(len(one.list)) {
		if !isEnough(one.start, one.cut, one.most, one.list, plan) {
			continue
		}
		counts[len(plan)]++
		if !found || len(plan) < len(best) || len(plan) == len(best) && slices.Compare(plan, best) < 0 {
			best, found = plan, true
		}
	}
	return best, counts, found
}

// lateOf tells the late plan, and whether it is enough.
func lateOf(one lawnDays) ([]int64, bool) {
	var plan []int64
	for day := range one.list {
		if !isEnough(one.start, one.cut, one.most, one.list[day:day+1], nil) {
			plan = append(plan, int64(day))
			one.start = min(one.start, one.cut)
		}
		heights, _ := heightsAndClips(one.start, one.cut, one.list[day:day+1], nil)
		one.start = heights[0]
		if one.start > one.most {
			return nil, false
		}
	}
	return plan, true
}

// P7: grass is never longer than told with the plans that are found, and no plan has fewer days, of all plans for few days.
func TestPromise7AllPlans(t *testing.T) {
	found, none := 0, 0
	for one := range shortSeasons(1500, 7) {
		best, counts, can := bestOf(one)
		few, got := impl.FewestMows(one.start, one.cut, one.most, one.list)
		late, gotLate := impl.LatePlan(one.start, one.cut, one.most, one.list)
		want := int64(impl.OK)
		if !can {
			want = impl.ErrNotFound
			none++
		} else {
			found++
		}
		wantLate, _ := lateOf(one)
		if !can {
			wantLate = nil
		}
		if got != want || gotLate != want || !slices.Equal(few, best) || !slices.Equal(late, wantLate) {
			t.Fatalf("%v: fewest %v (code %d), late %v (code %d); want %v, %v (code %d)", one, few, got, late, gotLate, best, wantLate, want)
		}
		for mows, wantCount := range counts {
			count, got := impl.CountPlans(one.start, one.cut, one.most, one.list, int64(mows))
			if count != wantCount || got != impl.OK {
				t.Fatalf("%v: %d plans (code %d) with %d days, want %d", one, count, got, mows, wantCount)
			}
		}
	}
	if found < 400 || none < 100 {
		t.Errorf("only %d with a plan, and %d without", found, none)
	}
}

// fewestDays tells the fewest days of a plan that is enough, or -1: all heights that so many days can leave are kept.
func fewestDays(one lawnDays) int {
	reached := make([]map[int64]bool, len(one.list)+1)
	for i := range reached {
		reached[i] = map[int64]bool{}
	}
	reached[0][one.start] = true
	for _, w := range one.list {
		for mows := len(reached) - 1; mows >= 0; mows-- {
			behind := map[int64]bool{}
			for high := range reached[mows] {
				behind[high+growthOn(w)] = true
			}
			if mows > 0 {
				for high := range reached[mows-1] {
					behind[min(high, one.cut)+growthOn(w)] = true
				}
			}
			for high := range behind {
				if high > one.most {
					delete(behind, high)
				}
			}
			reached[mows] = behind
		}
	}
	return slices.IndexFunc(reached, func(heights map[int64]bool) bool { return len(heights) > 0 })
}

// comesLater reports whether no plan that is enough, and has as many days, comes before one: none begins as it does, and then mows sooner.
func comesLater(one lawnDays, plan []int64) bool {
	for i, day := range plan {
		from := int64(0)
		if i > 0 {
			from = plan[i-1] + 1
		}
		for sooner := from; sooner < day; sooner++ {
			begun := append(slices.Clone(plan[:i]), sooner)
			if !isEnough(one.start, one.cut, one.most, one.list[:sooner+1], begun) {
				continue
			}
			heights, _ := heightsAndClips(one.start, one.cut, one.list[:sooner+1], begun)
			rest := fewestDays(lawnDays{heights[sooner], one.cut, one.most, one.list[sooner+1:]})
			if sooner+1 == int64(len(one.list)) {
				rest = 0
			}
			if rest >= 0 && len(begun)+rest <= len(plan) {
				return false
			}
		}
	}
	return true
}

// P7: as above, for up to MaxWeather days.
func TestPromise7ManyDays(t *testing.T) {
	random := rand.New(rand.NewSource(10))
	found, none := 0, 0
	for list := range manyWeathers(400) {
		one := lawnDays{int64(random.Intn(60)), int64(random.Intn(40)), int64(20 + random.Intn(100)), list}
		few, got := impl.FewestMows(one.start, one.cut, one.most, list)
		late, gotLate := impl.LatePlan(one.start, one.cut, one.most, list)
		code(t, "both", gotLate, got)
		fewest := fewestDays(one)
		if fewest < 0 {
			none++
			code(t, "no plan", got, impl.ErrNotFound)
			continue
		}
		found++
		code(t, "a plan", got, impl.OK)
		wantLate, can := lateOf(one)
		if !can || !slices.Equal(late, wantLate) || !isEnough(one.start, one.cut, one.most, list, late) {
			t.Fatalf("%v: late %v, want %v", one, late, wantLate)
		}
		if len(few) != fewest || !isEnough(one.start, one.cut, one.most, list, few) || !slices.IsSorted(few) || !comesLater(one, few) {
			t.Fatalf("%v: fewest %v, want %d days", one, few, fewest)
		}
		for mows := int64(0); mows < int64(fewest); mows++ {
			count, _ := impl.CountPlans(one.start, one.cut, one.most, list, mows)
			same(t, "fewer days", count, int64(0))
		}
		count, _ := impl.CountPlans(one.start, one.cut, one.most, list, int64(fewest))
		same(t, "fewest days", count > 0, true)
	}
	if found < 150 || none < 30 {
		t.Errorf("only %d with a plan, and %d without", found, none)
	}
}

// P7: plans that are told, many of them with others that have as few days.
func TestPromise7Told(t *testing.T) {
	type told struct {
		start, cut, most int64
		list             []impl.Weather
		few, late        []int64
		code             int64
	}
	ones, hot := sameDays(4, 0, 10), sameDays(impl.MaxWeather, 50, 40)
	var every []int64
	for day := range hot {
		every = append(every, int64(day))
	}
	for _, one := range []told{
		{10, 5, 14, growing(), []int64{1}, []int64{1}, impl.OK},
		{10, 5, 13, growing(), []int64{0, 1}, []int64{0, 2}, impl.OK},
		{10, 5, 17, growing(), []int64{0}, []int64{1}, impl.OK},
		{10, 5, 22, growing(), nil, nil, impl.OK},
		{10, 5, 21, growing(), []int64{0}, []int64{2}, impl.OK},
		{10, 5, 9, growing(), []int64{0, 1, 2}, []int64{0, 1, 2}, impl.OK},
		{10, 5, 8, growing(), nil, nil, impl.ErrNotFound},
		{10, 5, 3, growing(), nil, nil, impl.ErrNotFound},
		// On the first days mowing would cut nothing.
		{0, 5, 9, growing(), []int64{2}, []int64{2}, impl.OK},
		{1, 5, 9, growing(), []int64{2}, []int64{2}, impl.OK},
		{3, 5, 10, growing(), []int64{1, 2}, []int64{1, 2}, impl.OK},
		{5, 5, 9, growing(), []int64{1, 2}, []int64{1, 2}, impl.OK},
		{0, 5, 4, growing(), nil, nil, impl.ErrNotFound},
		{0, 5, 8, growing(), nil, nil, impl.ErrNotFound},
		{6, 10, 9, growing(), nil, nil, impl.ErrNotFound},
		// How high it is at first does not count.
		{200, 0, 0, nil, nil, nil, impl.OK},
		{200, 0, 0, weatherOf(50, 9), []int64{0}, []int64{0}, impl.OK},
		{200, 1, 0, weatherOf(50, 9), nil, nil, impl.ErrNotFound},
		{200, 5, 9, growing(), []int64{0, 1, 2}, []int64{0, 1, 2}, impl.OK},
		{200, 200, 200, weatherOf(0, 9), nil, nil, impl.OK},
		{200, 200, 200, weatherOf(0, 10), nil, nil, impl.ErrNotFound},
		{200, 199, 200, weatherOf(0, 10), []int64{0}, []int64{0}, impl.OK},
		{0, 0, 0, weatherOf(50, 9, 50, 0), nil, nil, impl.OK},
		{0, 0, 0, ones, nil, nil, impl.ErrNotFound},
		{0, 0, 1, ones, []int64{1, 2, 3}, []int64{1, 2, 3}, impl.OK},
		{0, 0, 2, ones, []int64{2}, []int64{2}, impl.OK},
		{0, 0, 3, ones, []int64{1}, []int64{3}, impl.OK},
		{0, 0, 4, ones, nil, nil, impl.OK},
		{200, 0, 24, hot, every, every, impl.OK},
		{0, 0, 24, hot, every[1:], every[1:], impl.OK},
		{0, 0, 23, hot, nil, nil, impl.ErrNotFound},
		{200, 176, 200, hot, every, every, impl.OK},
		{200, 177, 200, hot, nil, nil, impl.ErrNotFound},
		{200, 200, 200, hot, nil, nil, impl.ErrNotFound},
	} {
		name := fmt.Sprint(one)
		few, got := impl.FewestMows(one.start, one.cut, one.most, one.list)
		code(t, name, got, one.code)
		same(t, name, few, one.few)
		late, got := impl.LatePlan(one.start, one.cut, one.most, one.list)
		code(t, name, got, one.code)
		same(t, name, late, one.late)
	}
}

// chosen tells how many ways there are to choose k of n.
func chosen(n, k int64) int64 {
	if k == 0 || k == n {
		return 1
	}
	return chosen(n-1, k-1) + chosen(n-1, k)
}

// Plans are counted, whether they cut something or not.
func TestCountPlans(t *testing.T) {
	for mows := int64(0); mows <= impl.MaxWeather; mows++ {
		count, got := impl.CountPlans(0, 0, impl.MaxLong, sameDays(20, 0, 0), mows)
		want := int64(0)
		if mows <= 20 {
			want = chosen(20, mows)
		}
		same(t, fmt.Sprint(mows), []int64{count, got}, []int64{want, impl.OK})
	}
	count, _ := impl.CountPlans(0, 200, 200, sameDays(30, 0, 19), 15)
	same(t, "most of all", count, int64(155117520))
	count, _ = impl.CountPlans(0, 0, 1, sameDays(30, 0, 19), 30)
	same(t, "every day", count, int64(1))
	count, _ = impl.CountPlans(0, 0, 1, sameDays(30, 0, 19), 29)
	same(t, "every day but the first", count, int64(1))
	count, _ = impl.CountPlans(0, 0, 1, sameDays(30, 0, 19), 28)
	same(t, "too few", count, int64(0))
	// No two days behind each other may be without: as many days without as can be are 15 of 30.
	count, _ = impl.CountPlans(1, 0, 2, sameDays(30, 0, 19), 15)
	same(t, "every second day", count, int64(16))
	for mows, want := range []int64{0, 0, 2, 1, 0} {
		count, got := impl.CountPlans(10, 5, 13, growing(), int64(mows))
		same(t, fmt.Sprint(mows), []int64{count, got}, []int64{want, impl.OK})
	}
	for mows, want := range []int64{1, 0, 0} {
		count, got := impl.CountPlans(200, 0, 0, nil, int64(mows))
		same(t, fmt.Sprint(mows), []int64{count, got}, []int64{want, impl.OK})
	}
	count, got := impl.CountPlans(10, 5, 3, growing(), 2)
	same(t, "no plan", []int64{count, got}, []int64{0, impl.OK})
}

// The best cut is the greatest one, of all from 0 to MaxLong, with which so many days are enough.
func TestBestCut(t *testing.T) {
	for one := range shortSeasons(150, 5) {
		var fewest [impl.MaxLong + 1]int
		for cut := range fewest {
			one.cut = int64(cut)
			plan, _, can := bestOf(one)
			fewest[cut] = len(plan)
			if !can {
				fewest[cut] = 100
			}
		}
		for mows := range impl.MaxWeather + 1 {
			want := []int64{0, impl.ErrNotFound}
			for cut, days := range fewest {
				if days <= mows {
					want = []int64{int64(cut), impl.OK}
				}
			}
			cut, got := impl.BestCut(one.start, one.most, one.list, int64(mows))
			if !slices.Equal([]int64{cut, got}, want) {
				t.Fatalf("%v with %d days: %d (code %d), want %v", one, mows, cut, got, want)
			}
		}
	}
	for _, one := range []struct {
		start, most, mows int64
		list              []impl.Weather
		cut, code         int64
	}{
		{10, 14, 1, growing(), 6, impl.OK},
		{10, 14, 2, growing(), 10, impl.OK},
		{10, 14, 3, growing(), 10, impl.OK},
		{10, 14, 30, growing(), 10, impl.OK},
		{10, 14, 0, growing(), 0, impl.ErrNotFound},
		{10, 22, 0, growing(), 200, impl.OK},
		{10, 3, 30, growing(), 0, impl.ErrNotFound},
		{10, 4, 3, growing(), 0, impl.OK},
		{10, 4, 2, growing(), 0, impl.ErrNotFound},
		{200, 0, 0, nil, 200, impl.OK},
		{200, 199, 1, weatherOf(0, 0), 199, impl.OK},
		{200, 200, 0, weatherOf(0, 0), 200, impl.OK},
		{200, 24, 30, sameDays(30, 50, 40), 0, impl.OK},
		{200, 24, 29, sameDays(30, 50, 40), 0, impl.ErrNotFound},
		{200, 200, 30, sameDays(30, 50, 40), 176, impl.OK},
		{0, 200, 3, sameDays(30, 50, 40), 8, impl.OK},
		{0, 200, 2, sameDays(30, 50, 40), 0, impl.ErrNotFound},
	} {
		cut, got := impl.BestCut(one.start, one.most, one.list, one.mows)
		same(t, fmt.Sprint(one), []int64{cut, got}, []int64{one.cut, one.code})
	}
}

// The document's example of chapter 3.
func TestExample3(t *testing.T) {
	list := growing()
	growths, _ := impl.GrowthAll(list)
	same(t, "growth", growths, []int64{4, 4, 4})
	heights, _ := impl.HeightsOf(10, 5, list, []int64{1})
	same(t, "heights", heights, []int64{14, 9, 13})
	clips, _ := impl.ClippingsOf(10, 5, list, []int64{1})
	same(t, "clippings", clips, []int64{9})
	late, _ := impl.LatePlan(10, 5, 14, list)
	few, _ := impl.FewestMows(10, 5, 14, list)
	same(t, "14", [][]int64{late, few}, [][]int64{{1}, {1}})
	heights, _ = impl.HeightsOf(10, 5, list, []int64{0})
	same(t, "0 would not do", heights, []int64{9, 13, 17})
	late, _ = impl.LatePlan(10, 5, 13, list)
	few, _ = impl.FewestMows(10, 5, 13, list)
	same(t, "13", [][]int64{late, few}, [][]int64{{0, 2}, {0, 1}})
	heights, _ = impl.HeightsOf(10, 5, list, few)
	same(t, "heights", heights, []int64{9, 9, 13})
	count, _ := impl.CountPlans(10, 5, 13, list, 2)
	same(t, "plans", count, int64(2))
	same(t, "text", impl.WeatherText(list), strings.TrimSpace(strings.Repeat("15/27 ", 3)))
}
