package tests

import (
	"fmt"
	"math/rand"
	"runtime"
	"slices"
	"strings"
	"testing"
	"time"

	"loop.example/g01405/impl"
)

// robotAsk is all that functions of robots are told.
type robotAsk struct {
	l           impl.Lawn
	at, home    impl.Cell
	way, steps  int64
	bits        string
	walk, other []impl.Cell
	full        int64
	targets     []impl.Cell
	trips       []int64
	walks       [][]impl.Cell
}

// calls returns calls of all functions with a lawn.
func (a robotAsk) calls() []call {
	one := func(result any, code int64) ([]any, int64) { return []any{result}, code }
	return []call{
		{"BitWalk", func() ([]any, int64) { r, c := impl.BitWalk(a.l, a.at, a.way, a.bits, a.steps); return one(r, c) }},
		{"CheckWalk", func() ([]any, int64) { r, c := impl.CheckWalk(a.l, a.walk); return one(r, c) }},
		{"CoveredBy", func() ([]any, int64) { r, c := impl.CoveredBy(a.l, a.walk); return one(r, c) }},
		{"CoveredTwice", func() ([]any, int64) { r, c := impl.CoveredTwice(a.l, a.walk); return one(r, c) }},
		{"ChargesAlong", func() ([]any, int64) { r, c := impl.ChargesAlong(a.l, a.walk, a.home, a.full); return one(r, c) }},
		{"FirstEmpty", func() ([]any, int64) { r, c := impl.FirstEmpty(a.l, a.walk, a.home, a.full); return one(r, c) }},
		{"ReachOf", func() ([]any, int64) { r, c := impl.ReachOf(a.l, a.home, a.full); return one(r, c) }},
		{"LeastBattery", func() ([]any, int64) { r, c := impl.LeastBattery(a.l, a.home); return one(r, c) }},
		{"BestHome", func() ([]any, int64) { h, n, c := impl.BestHome(a.l); return []any{h, n}, c }},
		{"TripTo", func() ([]any, int64) { r, n, c := impl.TripTo(a.l, a.home, a.targets); return []any{r, n}, c }},
		{"FewestTrips", func() ([]any, int64) {
			r, n, c := impl.FewestTrips(a.l, a.home, a.full, a.targets)
			return []any{r, n}, c
		}},
		{"CheckTrips", func() ([]any, int64) {
			r, c := impl.CheckTrips(a.l, a.home, a.full, a.targets, a.trips)
			return one(r, c)
		}},
		{"FirstClash", func() ([]any, int64) {
			n, i, k, c := impl.FirstClash(a.l, a.walks)
			return []any{n, i, k}, c
		}},
		{"LeastDelay", func() ([]any, int64) { r, c := impl.LeastDelay(a.l, a.walk, a.other); return one(r, c) }},
		{"MeetCell", func() ([]any, int64) { m, n, c := impl.MeetCell(a.l, a.at, a.home); return []any{m, n}, c }},
		{"BackHome", func() ([]any, int64) { r, c := impl.BackHome(a.l, a.home, a.at); return one(r, c) }},
	}
}

// walkTextCalls returns calls of both functions without a lawn.
func walkTextCalls(walk []impl.Cell, text string) []call {
	return []call{
		{"WalkText", func() ([]any, int64) { return []any{impl.WalkText(walk)}, impl.OK }},
		{"ReadWalk", func() ([]any, int64) { r, c := impl.ReadWalk(text); return []any{r}, c }},
	}
}

// roomyWalks returns copies of walks with spare capacity, and a function that reports whether all is as it was.
func roomyWalks(given [][]impl.Cell) ([][]impl.Cell, func() bool) {
	var walks [][]impl.Cell
	var kept []func() bool
	for _, walk := range given {
		one, same := roomy(walk, impl.Cell{X: 77})
		walks, kept = append(walks, one), append(kept, same)
	}
	behind := append(walks, walkOf(55))
	return behind[:len(walks)], func() bool {
		for i := range walks {
			if len(behind[i]) != len(walks[i]) || !kept[i]() {
				return false
			}
		}
		return slices.Equal(behind[len(walks)], walkOf(55))
	}
}

// someAsk returns what may be asked on a lawn: much of it right, much of it not.
func someAsk(random *rand.Rand, l impl.Lawn) robotAsk {
	cells := append(noCells(l), impl.Cell{}, impl.Cell{X: 1}, impl.Cell{X: 1, Y: 1})
	if impl.ValidLawn(l) && random.Intn(4) > 0 {
		cells = cellsOf(l)
	}
	numbers := []int64{-1 << 63, -1, 0, 1, 2, 3, 4, 8, 30, 200, 201, 400, 401, 1 << 32, 1<<63 - 1}
	bits := []string{"", "0", "1", "x", "01x", "é", "\xff", "10101", randomBits(random, 64), randomBits(random, 65), strings.Repeat("1", 100000)}
	a := robotAsk{l: l, at: anyOf(random, cells), home: anyOf(random, cells), way: int64(random.Intn(4)), steps: int64(random.Intn(201)), full: int64(random.Intn(40))}
	a.bits = anyOf(random, bits)
	a.targets = someOf(random, cells, random.Intn(7))
	a.trips = someOf(random, []int64{0, 0, 0, 1, 1, 2, 3, 4, 5, -1}, len(a.targets))
	a.walk, a.other = someOf(random, cells, random.Intn(4)), someOf(random, cells, random.Intn(250))
	if impl.ValidLawn(l) && len(openIn(l)) > 0 && random.Intn(3) > 0 {
		a.home = anyOf(random, openIn(l))
		a.walk, a.other = randomWalk(random, l, a.home, 1+random.Intn(202)), randomWalk(random, l, anyOf(random, openIn(l)), 1+random.Intn(202))
		a.targets = someOf(random, openIn(l), len(a.targets))
	}
	if random.Intn(4) == 0 {
		a.way, a.steps, a.full, a.trips = anyOf(random, numbers), anyOf(random, numbers), anyOf(random, numbers), someOf(random, numbers, random.Intn(7))
	}
	a.walks = [][]impl.Cell{a.walk, a.other, {a.home, a.home}, {a.at}, a.other, a.walk, nil}[:random.Intn(8)]
	return a
}

// P1 (chapter 4): every function returns for all arguments, and the same each time; no argument is modified, nor what lies behind it.
func TestPromise1Robots(t *testing.T) {
	random := rand.New(rand.NewSource(15))
	var lawns []impl.Lawn
	for l := range robotLawns(30) {
		lawns = append(lawns, l)
	}
	for _, l := range badLawns() {
		lawns = append(lawns, l)
	}
	lawns = append(lawns, lawnOf("#"), fullLawn(10, 10, 1))
	for _, l := range lawns {
		for range 8 {
			a := someAsk(random, l)
			walk, keptWalk := roomy(a.walk, impl.Cell{X: 66})
			other, keptOther := roomy(a.other, impl.Cell{X: 66})
			targets, keptTargets := roomy(a.targets, impl.Cell{X: 66})
			trips, keptTrips := roomy(a.trips, 66)
			walks, keptWalks := roomyWalks(a.walks)
			a.walk, a.other, a.targets, a.trips, a.walks = walk, other, targets, trips, walks
			for _, one := range append(a.calls(), walkTextCalls(walk, impl.WalkText(other))...) {
				checkCall(t, one)
				if !keptWalk() || !keptOther() || !keptTargets() || !keptTrips() || !keptWalks() || a.l != l {
					t.Fatalf("%s modifies an argument", one.name)
				}
			}
		}
	}
	for _, text := range append(noWalkTexts(), "", "0,0", "9,9 0,1") {
		for _, one := range walkTextCalls(nil, text) {
			checkCall(t, one)
		}
	}
}

// P1: lists with as many elements as there may be are no matter.
func TestRobotsManyElements(t *testing.T) {
	const many = 1000000
	l := fullLawn(10, 10, 0)
	cells, apart := make([]impl.Cell, many), make([]impl.Cell, many)
	apart[many-1] = impl.Cell{X: 10}
	for i, walk := range [][]impl.Cell{cells, apart} {
		a := robotAsk{l: l, bits: strings.Repeat("0", many), walk: walk, other: walkOf(0), targets: walk, walks: [][]impl.Cell{walkOf(0), walk}}
		wants := map[string]int64{"BitWalk": impl.ErrSyntax}
		for _, name := range []string{"CheckWalk", "CoveredBy", "CoveredTwice", "ChargesAlong", "FirstEmpty", "TripTo", "FewestTrips", "CheckTrips", "FirstClash", "LeastDelay"} {
			wants[name] = []int64{impl.ErrLimit, impl.ErrRange}[i]
		}
		for _, one := range a.calls() {
			code(t, one.name, checkCall(t, one), wants[one.name])
		}
		same(t, "text", impl.WalkText(walk), "")
	}
	a := robotAsk{l: l, trips: make([]int64, many), walk: walkOf(0), other: walkOf(99), walks: make([][]impl.Cell, many)}
	wants := map[string]int64{"FirstClash": impl.ErrLimit, "FirstEmpty": impl.ErrNotFound}
	for _, one := range a.calls() {
		code(t, one.name, checkCall(t, one), wants[one.name])
	}
	_, got := impl.ReadWalk(strings.Repeat("0,0 ", many))
	code(t, "text", got, impl.ErrSyntax)
}

// P1, conventions: no robot goes on behind the return of a call.
func TestRobotsEnd(t *testing.T) {
	before := runtime.NumGoroutine()
	for _, steps := range []int64{0, 1, 7, impl.MaxSteps} {
		for range 50 {
			impl.BitWalk(fullLawn(10, 10, 0), impl.Cell{}, impl.WaEast, randomBits(rand.New(rand.NewSource(steps)), impl.MaxBits), steps)
		}
	}
	// One that has closed its channel may need a moment to end.
	for range 100 {
		if runtime.NumGoroutine() <= before {
			return
		}
		time.Sleep(time.Millisecond)
	}
	t.Errorf("%d go on, and before %d did", runtime.NumGoroutine(), before)
}

// P1: what is returned shares no memory with what is given.
func TestRobotsNew(t *testing.T) {
	walk := walkOf(0, 10, 11)
	covered, _ := impl.CoveredBy(example(), walk)
	spoilSlice(covered, impl.Cell{X: 99})
	same(t, "walk", walk, walkOf(0, 10, 11))
	targets := walkOf(0, 11)
	order, _, _ := impl.TripTo(example(), impl.Cell{X: 2}, targets)
	spoilSlice(order, 99)
	same(t, "targets", targets, walkOf(0, 11))
}

// fault is something that is wrong with what is asked, the code that it leads to, and the functions that have it.
type fault struct {
	code  int64
	make  func(a *robotAsk)
	names []string
}

// Functions by what they are told.
var (
	withWalk    = []string{"CheckWalk", "CoveredBy", "CoveredTwice", "ChargesAlong", "FirstEmpty", "LeastDelay"}
	rightWalk   = withWalk[1:]
	withBattery = []string{"ChargesAlong", "FirstEmpty"}
	withTargets = []string{"TripTo", "FewestTrips", "CheckTrips"}
	withFull    = []string{"ChargesAlong", "FirstEmpty", "ReachOf", "FewestTrips", "CheckTrips"}
	withHome    = []string{"ChargesAlong", "FirstEmpty", "ReachOf", "LeastBattery", "TripTo", "FewestTrips", "CheckTrips", "MeetCell", "BackHome"}
	withAt      = []string{"BitWalk", "MeetCell", "BackHome"}
)

// tooLong makes a right walk one cell longer than it may be.
func tooLong(walk []impl.Cell) []impl.Cell {
	return append(slices.Clone(walk), slices.Repeat(walk[len(walk)-1:], impl.MaxSteps+2-len(walk))...)
}

// robotFaults returns all faults, those that come later first, so that a fault that comes first is not undone.
func robotFaults() []fault {
	bed, far, none := impl.Cell{Y: 1}, impl.Cell{X: 4}, impl.Cell{X: 5}
	add := func(walk []impl.Cell, at impl.Cell) []impl.Cell { return append(slices.Clone(walk), at) }
	return []fault{
		{impl.ErrNotFound, func(a *robotAsk) { a.at = far }, []string{"MeetCell", "BackHome"}},
		{impl.ErrNotFound, func(a *robotAsk) { a.targets = add(a.targets, far) }, withTargets},
		{impl.ErrNotFound, func(a *robotAsk) { a.full = 5 }, []string{"FewestTrips"}},
		{impl.ErrSyntax, func(a *robotAsk) { a.bits = "012" }, []string{"BitWalk"}},
		{impl.ErrSyntax, func(a *robotAsk) { a.bits += strings.Repeat("0", impl.MaxBits) }, []string{"BitWalk"}},
		{impl.ErrState, func(a *robotAsk) { a.walk = add(a.walk, far) }, rightWalk},
		{impl.ErrState, func(a *robotAsk) { a.other = nil }, []string{"LeastDelay"}},
		{impl.ErrState, func(a *robotAsk) { a.home = impl.Cell{X: 1} }, withBattery},
		{impl.ErrState, func(a *robotAsk) { a.home = bed }, withHome},
		{impl.ErrState, func(a *robotAsk) { a.at = bed }, withAt},
		{impl.ErrState, func(a *robotAsk) { a.targets = add(a.targets, bed) }, withTargets},
		{impl.ErrState, func(a *robotAsk) { a.walks[1] = add(a.walks[1], bed) }, []string{"FirstClash"}},
		{impl.ErrLimit, func(a *robotAsk) { a.walk = tooLong(a.walk) }, withWalk},
		{impl.ErrLimit, func(a *robotAsk) { a.other = tooLong(append(walkOf(0), a.other...)) }, []string{"LeastDelay"}},
		{impl.ErrLimit, func(a *robotAsk) { a.walks[0] = tooLong(a.walks[0]) }, []string{"FirstClash"}},
		{impl.ErrLimit, func(a *robotAsk) { a.walks = append(a.walks, make([][]impl.Cell, 5)...) }, []string{"FirstClash"}},
		{impl.ErrLimit, func(a *robotAsk) { a.targets = append(a.targets, walkOf(0, 0, 0, 0)...) }, withTargets},
		{impl.ErrRange, func(a *robotAsk) { a.walk = add(a.walk, none) }, withWalk},
		{impl.ErrRange, func(a *robotAsk) { a.other = add(a.other, none) }, []string{"LeastDelay"}},
		{impl.ErrRange, func(a *robotAsk) { a.walks[1] = add(a.walks[1], none) }, []string{"FirstClash"}},
		{impl.ErrRange, func(a *robotAsk) { a.targets = add(a.targets, none) }, withTargets},
		{impl.ErrRange, func(a *robotAsk) { a.home = none }, withHome},
		{impl.ErrRange, func(a *robotAsk) { a.at = none }, withAt},
		{impl.ErrRange, func(a *robotAsk) { a.full = impl.MaxBattery + 1 }, withFull},
		{impl.ErrRange, func(a *robotAsk) { a.way = -1 }, []string{"BitWalk"}},
		{impl.ErrRange, func(a *robotAsk) { a.steps = impl.MaxSteps + 1 }, []string{"BitWalk"}},
	}
}

// soundAsk returns what all functions can do.
func soundAsk() robotAsk {
	return robotAsk{
		l:  lawnOf("..=#=", "#..#=", "..T#="),
		at: impl.Cell{X: 1}, home: impl.Cell{X: 2}, way: impl.WaWest, steps: 3, bits: "01",
		walk: walkOf(20, 10, 0), other: walkOf(12, 2), full: 8,
		targets: walkOf(0, 2), trips: []int64{0, 1}, walks: [][]impl.Cell{walkOf(0, 10), walkOf(10, 0)},
	}
}

// askWith returns what is asked with some faults, and the code that each function should return, but for FirstEmpty without one.
func askWith(faults ...fault) (robotAsk, map[string]int64) {
	a, wants := soundAsk(), map[string]int64{}
	for _, one := range faults {
		one.make(&a)
		for _, name := range one.names {
			if want := wants[name]; want == impl.OK || one.code < want {
				wants[name] = one.code
			}
		}
	}
	if wants["FirstEmpty"] == impl.OK {
		wants["FirstEmpty"] = impl.ErrNotFound
	}
	return a, wants
}

// Of several errors the one that is told first comes first, in all functions: each error, all two of them, and some more.
func TestRobotErrorOrder(t *testing.T) {
	check := func(faults ...fault) {
		t.Helper()
		a, wants := askWith(faults...)
		for _, one := range a.calls() {
			code(t, one.name, checkCall(t, one), wants[one.name])
		}
		a.l.Cells[9][9] = 1
		for _, one := range a.calls() {
			code(t, one.name+", lawn not valid", checkCall(t, one), impl.ErrInvalid)
		}
	}
	check()
	all := robotFaults()
	for i, first := range all {
		check(first)
		for _, second := range all[i+1:] {
			check(first, second)
		}
	}
	random := rand.New(rand.NewSource(16))
	for range 500 {
		check(slices.DeleteFunc(slices.Clone(all), func(fault) bool { return random.Intn(4) > 0 })...)
	}
}

// P1, conventions: a lawn that is not valid is told before any other error.
func TestRobotsInvalidFirst(t *testing.T) {
	for name, l := range badLawns() {
		a, _ := askWith(robotFaults()...)
		a.l = l
		for _, one := range append(a.calls(), (robotAsk{l: l}).calls()...) {
			code(t, one.name+", "+name, checkCall(t, one), impl.ErrInvalid)
		}
	}
}

// Numbers and cells that are none, each one by itself.
func TestRobotsRange(t *testing.T) {
	check := func(told string, names []string, change func(a *robotAsk)) {
		t.Helper()
		a := soundAsk()
		change(&a)
		for _, one := range a.calls() {
			want := int64(impl.OK)
			if one.name == "FirstEmpty" {
				want = impl.ErrNotFound
			}
			if slices.Contains(names, one.name) {
				want = impl.ErrRange
			}
			code(t, one.name+", "+told, checkCall(t, one), want)
		}
	}
	for _, at := range noCells(soundAsk().l) {
		check("home", withHome, func(a *robotAsk) { a.home = at })
		check("at", withAt, func(a *robotAsk) { a.at = at })
		check("walk", withWalk, func(a *robotAsk) { a.walk = []impl.Cell{at} })
		check("first of a walk", withWalk, func(a *robotAsk) { a.walk[0] = at })
		check("last of a walk", withWalk, func(a *robotAsk) { a.walk[2] = at })
		check("other walk", []string{"LeastDelay"}, func(a *robotAsk) { a.other = []impl.Cell{at, at} })
		check("walks", []string{"FirstClash"}, func(a *robotAsk) { a.walks = [][]impl.Cell{{at}} })
		check("last of walks", []string{"FirstClash"}, func(a *robotAsk) { a.walks[1][1] = at })
		check("target", withTargets, func(a *robotAsk) { a.targets[0] = at })
		check("last target", withTargets, func(a *robotAsk) { a.targets[1] = at })
	}
	for _, bad := range []int64{-1, -1 << 63, 1<<63 - 1, 1 << 32, 256, 4, 5, -4} {
		check("way", []string{"BitWalk"}, func(a *robotAsk) { a.way = bad })
	}
	for _, bad := range []int64{-1, -1 << 63, 1<<63 - 1, 1 << 32, 201, 256} {
		check("steps", []string{"BitWalk"}, func(a *robotAsk) { a.steps = bad })
	}
	for _, bad := range []int64{-1, -1 << 63, 1<<63 - 1, 1 << 32, 401, 512} {
		check("full", withFull, func(a *robotAsk) { a.full = bad })
	}
	for way := int64(0); way < 4; way++ {
		check("way", nil, func(a *robotAsk) { a.way = way })
	}
	check("greatest", nil, func(a *robotAsk) { a.full, a.steps = impl.MaxBattery, impl.MaxSteps })
	check("least", nil, func(a *robotAsk) { a.steps = 0 })
}

// No cell that is not open is one of a walk, a home or a target.
func TestRobotsState(t *testing.T) {
	for _, l := range []impl.Lawn{example(), lawnOf("#.T", ".=."), fullLawn(10, 10, 1), fullLawn(10, 10, 2)} {
		for _, closed := range closedIn(l) {
			a := robotAsk{l: l, at: closed, home: closed, walk: []impl.Cell{closed}, other: []impl.Cell{closed}, targets: []impl.Cell{closed}, walks: [][]impl.Cell{{closed}}}
			for _, one := range a.calls() {
				if one.name != "BestHome" && one.name != "CheckWalk" {
					code(t, one.name, checkCall(t, one), impl.ErrState)
				}
			}
			for _, open := range openIn(l) {
				a := robotAsk{l: l, at: open, home: closed, targets: []impl.Cell{open}, walk: []impl.Cell{open}, other: []impl.Cell{open, closed}, walks: [][]impl.Cell{{open}, {closed}}}
				for _, one := range a.calls() {
					if slices.Contains(append(withHome, "FirstClash", "LeastDelay"), one.name) {
						code(t, one.name, checkCall(t, one), impl.ErrState)
					}
				}
				_, _, got := impl.MeetCell(l, closed, open)
				code(t, "MeetCell", got, impl.ErrState)
				_, got = impl.BackHome(l, open, closed)
				code(t, "BackHome", got, impl.ErrState)
				_, _, got = impl.TripTo(l, open, []impl.Cell{open, closed})
				code(t, "TripTo", got, impl.ErrState)
			}
		}
	}
}

// Walks that are not right, which are no error of CheckWalk alone.
func TestWrongWalks(t *testing.T) {
	home := impl.Cell{X: 2}
	for _, walk := range [][]impl.Cell{nil, {}, walkOf(1), walkOf(22), walkOf(20, 0), walkOf(20, 11), walkOf(20, 21, 22), walkOf(20, 10, 0, 1), walkOf(20, 21, 12), append(slices.Repeat(walkOf(20), impl.MaxSteps), impl.Cell{})} {
		a := robotAsk{l: example(), home: home, full: 9, walk: walk, other: walkOf(2), walks: [][]impl.Cell{walkOf(2), walk}}
		for _, one := range a.calls() {
			if slices.Contains(rightWalk, one.name) || one.name == "FirstClash" {
				code(t, fmt.Sprintf("%s, %.40s", one.name, fmt.Sprint(walk)), checkCall(t, one), impl.ErrState)
			}
		}
		right, got := impl.CheckWalk(example(), walk)
		same(t, fmt.Sprint(walk), []any{right, got}, []any{false, int64(impl.OK)})
		_, got = impl.LeastDelay(example(), walkOf(2), walk)
		code(t, "LeastDelay", got, impl.ErrState)
	}
	// A walk begins at home, also if it comes there later.
	for _, walk := range [][]impl.Cell{walkOf(10), walkOf(10, 20), walkOf(21, 20, 10), walkOf(0, 10, 20, 20)} {
		for full := range int64(6) {
			_, got := impl.ChargesAlong(example(), walk, home, full)
			code(t, "ChargesAlong", got, impl.ErrState)
			_, got = impl.FirstEmpty(example(), walk, home, full)
			code(t, "FirstEmpty", got, impl.ErrState)
		}
	}
}

// A walk may have MaxSteps + 1 cells, and no more, whether it is right or not.
func TestMaxSteps(t *testing.T) {
	for count := impl.MaxSteps - 1; count < impl.MaxSteps+4; count++ {
		// Codes of walks that do not clash, of those that do, or are never empty, and of those that are not right.
		fine, none, wrong := int64(impl.OK), int64(impl.ErrNotFound), int64(impl.ErrState)
		if count > impl.MaxSteps+1 {
			fine, none, wrong = impl.ErrLimit, impl.ErrLimit, impl.ErrLimit
		}
		for _, step := range []impl.Cell{{}, {X: 1}} {
			walk := toAndFro(count, impl.Cell{}, step, impl.Cell{})
			a := robotAsk{l: example(), walk: walk, other: walkOf(2), full: 2, walks: [][]impl.Cell{walkOf(2), walk}}
			for _, one := range a.calls() {
				switch {
				case one.name == "FirstEmpty" || one.name == "FirstClash":
					code(t, one.name, checkCall(t, one), none)
				case slices.Contains(withWalk, one.name):
					code(t, one.name, checkCall(t, one), fine)
				}
			}
			_, got := impl.LeastDelay(example(), walkOf(2), walk)
			code(t, "LeastDelay", got, fine)
			_, got = impl.LeastDelay(example(), walk, walk)
			code(t, "LeastDelay, both", got, none)
		}
		_, got := impl.CoveredBy(example(), toAndFro(count, impl.Cell{}, impl.Cell{X: 2}, impl.Cell{}))
		code(t, "not right", got, wrong)
	}
}

// Bits that are none, and as many as there may be.
func TestNoBits(t *testing.T) {
	bad := []string{"2", " ", "01 ", " 01", "0 1", "0x1", "a", "\x00", "0\x001", "1\n", "é", "\xff", "0\xff1", "٠", "１", "O", "l", "-1", "0,1", strings.Repeat("0", 63) + "2", strings.Repeat("0", 65), strings.Repeat("1", 65), strings.Repeat("01", 33), strings.Repeat("0", 1000), strings.Repeat("é", 32)}
	for b := range 256 {
		if b != '0' && b != '1' {
			bad = append(bad, string([]byte{byte(b)}), string([]byte{'1', byte(b), '0'}))
		}
	}
	for _, bits := range bad {
		for _, steps := range []int64{0, 1, impl.MaxSteps} {
			walk, got := impl.BitWalk(example(), impl.Cell{}, impl.WaEast, bits, steps)
			code(t, fmt.Sprintf("%.70q", bits), got, impl.ErrSyntax)
			same(t, fmt.Sprintf("%.70q", bits), walk, []impl.Cell(nil))
		}
	}
	for count := range impl.MaxBits + 1 {
		_, got := impl.BitWalk(example(), impl.Cell{}, impl.WaEast, strings.Repeat("1", count), impl.MaxSteps)
		code(t, "bits", got, impl.OK)
	}
}

// P8: a walk by bits goes over open cells, each one beside the one before, and is the one that is told.
func TestPromise8(t *testing.T) {
	random := rand.New(rand.NewSource(17))
	for l := range robotLawns(200) {
		for range 20 {
			at, way, steps := anyOf(random, openIn(l)), random.Intn(4), random.Intn(impl.MaxSteps+1)
			bits := randomBits(random, random.Intn(impl.MaxBits+1))
			walk, got := impl.BitWalk(l, at, int64(way), bits, int64(steps))
			code(t, "walk", got, impl.OK)
			for i, next := range walk {
				if !isOpen(l, next) || i > 0 && !beside(walk[i-1], next) {
					t.Fatalf("%v from %v, way %d, bits %q: %v", l, at, way, bits, walk)
				}
			}
			if want := walkByBits(l, at, way, bits, steps); !slices.Equal(walk, want) {
				t.Fatalf("%v from %v, way %d, bits %q, %d steps: %v, want %v", l, at, way, bits, steps, walk, want)
			}
			right, got := impl.CheckWalk(l, walk)
			same(t, "right", []any{right, got}, []any{true, int64(impl.OK)})
		}
	}
}

// P8: all ways, all short bits, and few steps, on small lawns.
func TestPromise8Small(t *testing.T) {
	for _, l := range []impl.Lawn{example(), mowing(), lawnOf("."), lawnOf("..", ".."), lawnOf("#=#", "...", "#.#")} {
		for _, at := range openIn(l) {
			for number := range 1 << 6 {
				bits := fmt.Sprintf("%b", number+1)[1:]
				for way := range 4 {
					for _, steps := range []int{0, 1, 2, 3, 50} {
						walk, got := impl.BitWalk(l, at, int64(way), bits, int64(steps))
						if want := walkByBits(l, at, way, bits, steps); got != impl.OK || !slices.Equal(walk, want) {
							t.Fatalf("%v from %v, way %d, bits %q, %d steps: %v (code %d), want %v", l, at, way, bits, steps, walk, got, want)
						}
					}
				}
			}
		}
	}
}

// P9: a robot comes home from all cells that it reaches, with its battery, and from no others.
func TestPromise9Home(t *testing.T) {
	random := rand.New(rand.NewSource(18))
	for l := range robotLawns(60) {
		for range 6 {
			home, full := anyOf(random, openIn(l)), int64(random.Intn(24))
			reach, got := impl.ReachOf(l, home, full)
			code(t, "reach", got, impl.OK)
			for _, at := range grassOf(l) {
				back, got := impl.BackHome(l, home, at)
				if got == impl.ErrNotFound {
					same(t, "apart", slices.Contains(reach, at), false)
					continue
				}
				code(t, "back", got, impl.OK)
				// There on the way back, and then home: no walk to the cell and home is shorter.
				round := append(reversed(back), back[1:]...)
				_, got = impl.ChargesAlong(l, round, home, full)
				same(t, "comes home", got == impl.OK, slices.Contains(reach, at))
			}
		}
	}
}

// P9: cells that are reached, the least battery, and the best home, compared with steps that are found in another way.
func TestPromise9Reach(t *testing.T) {
	for l := range robotLawns(24) {
		steps := stepsBetween(l)
		bestHome, best := impl.Cell{}, int64(farthest)
		for _, home := range openIn(l) {
			least := leastBy(l, steps, home)
			if len(reachBy(l, steps, home, least)) == len(grassOf(l)) && least < best {
				bestHome, best = home, least
			}
			told, got := impl.LeastBattery(l, home)
			same(t, "least", []int64{told, got}, []int64{least, impl.OK})
			for _, full := range []int64{0, 1, 2, 3, 5, 8, least - 1, least, least + 1, impl.MaxBattery} {
				if full < 0 {
					continue
				}
				reach, got := impl.ReachOf(l, home, full)
				if want := reachBy(l, steps, home, full); got != impl.OK || !slices.Equal(reach, want) {
					t.Fatalf("%v from %v with %d: %v (code %d), want %v", l, home, full, reach, got, want)
				}
			}
		}
		want := []any{bestHome, best, int64(impl.OK)}
		if best == farthest {
			want = []any{impl.Cell{}, int64(0), int64(impl.ErrNotFound)}
		}
		home, least, got := impl.BestHome(l)
		same(t, fmt.Sprint(l), []any{home, least, got}, want)
	}
}

// targetsOn returns targets to which there are steps from home, so many of them.
func targetsOn(random *rand.Rand, l impl.Lawn, steps map[[2]impl.Cell]int64, home impl.Cell, count int) []impl.Cell {
	near := slices.DeleteFunc(openIn(l), func(at impl.Cell) bool { return !joined(steps, home, at) })
	return someOf(random, near, count)
}

// P9: no other order of all targets has fewer steps, and none with as few comes before.
func TestPromise9Trip(t *testing.T) {
	random := rand.New(rand.NewSource(19))
	for l := range robotLawns(24) {
		steps := stepsBetween(l)
		for n := range 18 {
			home := anyOf(random, openIn(l))
			targets := targetsOn(random, l, steps, home, n%(impl.MaxTargets+1))
			wantOrder, want := tripBy(steps, home, targets)
			order, sum, got := impl.TripTo(l, home, targets)
			if got != impl.OK || sum != want || !slices.Equal(order, wantOrder) {
				t.Fatalf("%v from %v to %v: %v with %d (code %d), want %v with %d", l, home, targets, order, sum, got, wantOrder, want)
			}
		}
	}
}

// checkTrips compares the fewest trips with all lists of trips, and returns how many they are, or -1 if one target alone needs too much.
func checkTrips(t *testing.T, l impl.Lawn, steps map[[2]impl.Cell]int64, home impl.Cell, spare int64, targets []impl.Cell) int64 {
	t.Helper()
	most := int64(0)
	for _, at := range targets {
		most = max(most, 2*steps[[2]impl.Cell{home, at}])
	}
	full := max(0, most+spare)
	trips, count, got := impl.FewestTrips(l, home, full, targets)
	if full < most {
		same(t, "one alone", []any{len(trips), count, got}, []any{0, int64(0), int64(impl.ErrNotFound)})
		return -1
	}
	want, fewest := fewestBy(steps, home, full, targets)
	if got != impl.OK || count != fewest || !slices.Equal(trips, want) {
		t.Fatalf("%v from %v with %d to %v: %v, %d (code %d), want %v, %d", l, home, full, targets, trips, count, got, want, fewest)
	}
	right, got := impl.CheckTrips(l, home, full, targets, trips)
	same(t, "right", []any{right, got}, []any{true, int64(impl.OK)})
	return count
}

// P9: no fewer trips reach all targets, and no list with as few comes before, of all lists.
func TestPromise9Trips(t *testing.T) {
	random := rand.New(rand.NewSource(20))
	found := map[int64]int{}
	for l := range robotLawns(24) {
		steps := stepsBetween(l)
		for n := range 6 {
			home := anyOf(random, openIn(l))
			targets := targetsOn(random, l, steps, home, n)
			found[checkTrips(t, l, steps, home, int64(random.Intn(5))-1, targets)]++
		}
	}
	// Targets that are equally far from home are all reached by trips of their own, or by fewer ones that are longer.
	l, home, targets := fullLawn(10, 10, 0), impl.Cell{X: 5, Y: 5}, walkOf(95, 15, 51, 59, 62)
	steps := stepsBetween(l)
	for spare := int64(-1); spare < 36; spare++ {
		random.Shuffle(len(targets), func(i, k int) { targets[i], targets[k] = targets[k], targets[i] })
		found[checkTrips(t, l, steps, home, spare, targets)]++
	}
	for count := int64(-1); count <= impl.MaxTargets; count++ {
		if found[count] == 0 {
			t.Errorf("none with %d trips", count)
		}
	}
}

// P9: all numbers of trips are right, or not.
func TestPromise9CheckTrips(t *testing.T) {
	random := rand.New(rand.NewSource(21))
	yes, no := 0, 0
	for l := range robotLawns(16) {
		steps := stepsBetween(l)
		home := anyOf(random, openIn(l))
		targets := targetsOn(random, l, steps, home, random.Intn(4))
		_, all := tripBy(steps, home, targets)
		for _, full := range []int64{0, all - 1, all, all / 2, all - 3, impl.MaxBattery} {
			if full < 0 {
				continue
			}
			for trips := range everyTrips(len(targets), impl.MaxTargets) {
				want := areTrips(steps, home, full, targets, trips)
				right, got := impl.CheckTrips(l, home, full, targets, trips)
				if got != impl.OK || right != want {
					t.Fatalf("%v from %v with %d to %v: %v (code %d) of %v", l, home, full, targets, right, got, trips)
				}
				if want {
					yes++
				} else {
					no++
				}
			}
		}
	}
	if yes < 300 || no < 300 {
		t.Errorf("only %d are right, and %d are not", yes, no)
	}
}

// Trips that are told: with no targets, with the same one twice, with home, and with several that are equally good.
func TestTripsTold(t *testing.T) {
	row, middle, cross := lawnOf("....=...."), impl.Cell{X: 4}, lawnOf("#.#", ".=.", "#.#")
	for _, one := range []struct {
		l       impl.Lawn
		home    impl.Cell
		full    int64
		targets []impl.Cell
		order   []int64
		steps   int64
		trips   []int64
		count   int64
	}{
		{example(), impl.Cell{X: 2}, 4, walkOf(0, 11), []int64{0, 1}, 6, []int64{0, 1}, 2},
		{example(), impl.Cell{X: 2}, 6, walkOf(0, 11), []int64{0, 1}, 6, []int64{0, 0}, 1},
		{example(), impl.Cell{X: 2}, 5, walkOf(0, 11), []int64{0, 1}, 6, []int64{0, 1}, 2},
		{row, middle, 0, nil, nil, 0, nil, 0},
		{row, middle, 400, []impl.Cell{}, nil, 0, nil, 0},
		{row, middle, 0, walkOf(40), []int64{0}, 0, []int64{0}, 1},
		{row, middle, 0, walkOf(40, 40, 40, 40, 40), []int64{0, 1, 2, 3, 4}, 0, []int64{0, 0, 0, 0, 0}, 1},
		{row, middle, 8, walkOf(0), []int64{0}, 8, []int64{0}, 1},
		{row, middle, 8, walkOf(0, 0), []int64{0, 1}, 8, []int64{0, 0}, 1},
		{row, middle, 8, walkOf(0, 80), []int64{0, 1}, 16, []int64{0, 1}, 2},
		{row, middle, 15, walkOf(0, 80), []int64{0, 1}, 16, []int64{0, 1}, 2},
		{row, middle, 16, walkOf(0, 80), []int64{0, 1}, 16, []int64{0, 0}, 1},
		{row, middle, 8, walkOf(0, 80, 10, 70, 40), []int64{0, 2, 1, 3, 4}, 16, []int64{0, 1, 0, 1, 0}, 2},
		{row, middle, 8, walkOf(40, 80, 0), []int64{0, 1, 2}, 16, []int64{0, 0, 1}, 2},
		{row, middle, 4, walkOf(50, 30, 60, 20), []int64{0, 2, 1, 3}, 8, []int64{0, 1, 0, 1}, 2},
		{row, middle, 2, walkOf(50, 30, 50, 30, 40), []int64{0, 2, 1, 3, 4}, 4, []int64{0, 1, 0, 1, 0}, 2},
		{row, impl.Cell{}, 16, walkOf(80, 10, 40, 20, 80), []int64{0, 4, 2, 3, 1}, 16, []int64{0, 0, 0, 0, 0}, 1},
		{cross, impl.Cell{X: 1, Y: 1}, 2, walkOf(10, 1, 21, 12, 11), []int64{0, 1, 2, 3, 4}, 8, []int64{0, 1, 2, 3, 0}, 4},
		{cross, impl.Cell{X: 1, Y: 1}, 4, walkOf(10, 1, 21, 12, 11), []int64{0, 1, 2, 3, 4}, 8, []int64{0, 0, 1, 1, 0}, 2},
		{cross, impl.Cell{X: 1, Y: 1}, 3, walkOf(12, 21, 1, 10, 12), []int64{0, 4, 1, 2, 3}, 8, []int64{0, 1, 2, 3, 0}, 4},
		{cross, impl.Cell{X: 1}, 6, walkOf(12, 21, 1), []int64{0, 1, 2}, 8, []int64{0, 0, 1}, 2},
		{snake(), impl.Cell{}, 108, walkOf(99, 8, 0), []int64{0, 1, 2}, 108, []int64{0, 0, 0}, 1},
		{fullLawn(10, 10, 0), impl.Cell{}, 36, walkOf(90, 99, 9), []int64{0, 1, 2}, 36, []int64{0, 0, 0}, 1},
		{fullLawn(10, 10, 0), impl.Cell{}, 400, walkOf(99, 9, 90, 0, 55), []int64{1, 0, 4, 2, 3}, 44, []int64{0, 0, 0, 0, 0}, 1},
	} {
		name := fmt.Sprintf("%v from %v with %d", one.targets, one.home, one.full)
		order, steps, got := impl.TripTo(one.l, one.home, one.targets)
		code(t, name, got, impl.OK)
		same(t, name, order, one.order)
		same(t, name, steps, one.steps)
		trips, count, got := impl.FewestTrips(one.l, one.home, one.full, one.targets)
		code(t, name, got, impl.OK)
		same(t, name, trips, one.trips)
		same(t, name, count, one.count)
	}
}

// A number of a trip is 0 to MaxTargets - 1, and there are as many as targets.
func TestCheckTripsTold(t *testing.T) {
	l, home := example(), impl.Cell{X: 2}
	for _, one := range []struct {
		targets []impl.Cell
		trips   []int64
		full    int64
		want    bool
	}{
		{nil, nil, 0, true},
		{nil, []int64{}, 400, true},
		{nil, []int64{0}, 400, false},
		{walkOf(0), nil, 400, false},
		{walkOf(0, 11), []int64{0}, 400, false},
		{walkOf(0, 11), []int64{0, 0, 0}, 400, false},
		{walkOf(0, 11), make([]int64, 1000), 400, false},
		{walkOf(0, 11), []int64{0, 0}, 6, true},
		{walkOf(0, 11), []int64{0, 0}, 5, false},
		{walkOf(0, 11), []int64{0, 1}, 4, true},
		{walkOf(0, 11), []int64{0, 1}, 3, false},
		// Numbers need not be told by first targets here.
		{walkOf(0, 11), []int64{4, 2}, 4, true},
		{walkOf(0, 11), []int64{4, 4}, 6, true},
		{walkOf(0, 11), []int64{3, 3}, 5, false},
		{walkOf(0, 11), []int64{1, 0}, 4, true},
		{walkOf(0, 11), []int64{5, 0}, 400, false},
		{walkOf(0, 11), []int64{0, 5}, 400, false},
		{walkOf(0, 11), []int64{0, -1}, 400, false},
		{walkOf(0, 11), []int64{-1 << 63, 0}, 400, false},
		{walkOf(0, 11), []int64{0, 1<<63 - 1}, 400, false},
		{walkOf(0, 11), []int64{1 << 32, 0}, 400, false},
		{walkOf(20), []int64{4}, 0, true},
		{walkOf(0, 0, 0, 0, 0), []int64{4, 4, 4, 4, 4}, 4, true},
		{walkOf(0, 0, 0, 0, 0), []int64{0, 1, 2, 3, 4}, 4, true},
		{walkOf(0, 0, 0, 0, 0), []int64{0, 1, 2, 3, 4}, 3, false},
		{walkOf(2, 0, 10, 11, 12), []int64{0, 1, 1, 0, 0}, 8, true},
		{walkOf(2, 0, 10, 11, 12), []int64{0, 1, 1, 1, 0}, 8, true},
		{walkOf(2, 0, 10, 11, 12), []int64{0, 0, 1, 1, 0}, 8, false},
		{walkOf(2, 0, 10, 11, 12), []int64{0, 0, 1, 1, 0}, 9, false},
		{walkOf(2, 0, 10, 11, 12), []int64{0, 0, 1, 1, 0}, 10, true},
	} {
		name := fmt.Sprint(one)
		right, got := impl.CheckTrips(l, home, one.full, one.targets, one.trips)
		code(t, name, got, impl.OK)
		same(t, name, right, one.want)
	}
	// Wrong numbers do not hide what cannot be found.
	_, got := impl.CheckTrips(lawnOf(".#."), impl.Cell{}, 4, walkOf(20), nil)
	code(t, "apart", got, impl.ErrNotFound)
	// One alone that needs too much is an error of the fewest trips alone.
	_, _, got = impl.FewestTrips(l, home, 3, walkOf(0))
	code(t, "one alone", got, impl.ErrNotFound)
	_, _, got = impl.FewestTrips(l, home, 7, walkOf(10, 10, 2, 10))
	code(t, "one alone", got, impl.ErrNotFound)
	_, steps, got := impl.TripTo(l, home, walkOf(2))
	same(t, "one alone", []int64{steps, got}, []int64{8, impl.OK})
}

// There may be MaxTargets targets, and no more, and MaxRobots walks.
func TestRobotLimits(t *testing.T) {
	l := fullLawn(10, 10, 0)
	for count := range impl.MaxTargets + 4 {
		want := int64(impl.OK)
		if count > impl.MaxTargets {
			want = impl.ErrLimit
		}
		targets := make([]impl.Cell, count)
		for _, one := range (robotAsk{l: l, targets: targets, trips: make([]int64, count)}).calls() {
			if slices.Contains(withTargets, one.name) {
				code(t, one.name, checkCall(t, one), want)
			}
		}
	}
	for count := range impl.MaxRobots + 4 {
		var walks [][]impl.Cell
		for i := range count {
			walks = append(walks, []impl.Cell{{X: int8(i)}})
		}
		want := []int64{0, 0, 0, impl.ErrNotFound}
		if count > impl.MaxRobots {
			want[3] = impl.ErrLimit
		}
		time, first, second, got := impl.FirstClash(l, walks)
		same(t, "apart", []int64{time, first, second, got}, want)
		if count < 2 || count > impl.MaxRobots {
			continue
		}
		walks[count-1] = toAndFro(count, impl.Cell{X: int8(count - 1)}, impl.Cell{X: int8(count - 2)}, impl.Cell{X: int8(count - 1)})
		time, first, second, got = impl.FirstClash(l, walks)
		same(t, "last two", []int64{time, first, second, got}, []int64{1, int64(count - 2), int64(count - 1), impl.OK})
	}
}

// Clashes that are told.
func TestFirstClashTold(t *testing.T) {
	none := []int64{0, 0, 0, impl.ErrNotFound}
	long := toAndFro(impl.MaxSteps+1, impl.Cell{X: 1}, impl.Cell{}, impl.Cell{X: 1})
	for _, one := range []struct {
		walks [][]impl.Cell
		want  []int64
	}{
		{nil, none},
		{[][]impl.Cell{}, none},
		{[][]impl.Cell{walkOf(0)}, none},
		{[][]impl.Cell{walkOf(0, 10, 0)}, none},
		{[][]impl.Cell{walkOf(0), walkOf(0)}, []int64{0, 0, 1, impl.OK}},
		{[][]impl.Cell{walkOf(0, 10), walkOf(0, 0)}, []int64{0, 0, 1, impl.OK}},
		{[][]impl.Cell{walkOf(0), walkOf(10)}, none},
		// They exchange their cells, or one comes where the other one goes away.
		{[][]impl.Cell{walkOf(0, 10), walkOf(10, 0)}, []int64{1, 0, 1, impl.OK}},
		{[][]impl.Cell{walkOf(0, 10), walkOf(10, 20)}, none},
		{[][]impl.Cell{walkOf(10, 20), walkOf(0, 10)}, none},
		{[][]impl.Cell{walkOf(0, 10, 20), walkOf(10, 20, 20)}, []int64{2, 0, 1, impl.OK}},
		{[][]impl.Cell{walkOf(0, 0, 10), walkOf(20, 10, 0)}, []int64{2, 0, 1, impl.OK}},
		{[][]impl.Cell{walkOf(0, 10), walkOf(20, 10)}, []int64{1, 0, 1, impl.OK}},
		{[][]impl.Cell{walkOf(0, 10, 0), walkOf(20, 20, 10)}, none},
		// A ring of three goes on without a clash.
		{[][]impl.Cell{walkOf(10, 20), walkOf(20, 21), walkOf(21, 11), walkOf(11, 10)}, none},
		// They stay behind the end of their walks.
		{[][]impl.Cell{walkOf(0), walkOf(20, 10, 0)}, []int64{2, 0, 1, impl.OK}},
		{[][]impl.Cell{walkOf(20, 10, 0), walkOf(0)}, []int64{2, 0, 1, impl.OK}},
		{[][]impl.Cell{walkOf(0, 10), walkOf(12, 12, 11, 10)}, []int64{3, 0, 1, impl.OK}},
		{[][]impl.Cell{walkOf(0, 10), walkOf(12, 12, 11)}, none},
		{[][]impl.Cell{walkOf(0, 10, 10, 0), walkOf(12, 11, 11, 10)}, none},
		{[][]impl.Cell{long, walkOf(21, 20)}, none},
		{[][]impl.Cell{long, append(slices.Repeat(walkOf(20), impl.MaxSteps), impl.Cell{X: 1})}, []int64{200, 0, 1, impl.OK}},
		{[][]impl.Cell{long, append(slices.Repeat(walkOf(20), impl.MaxSteps-1), impl.Cell{X: 1}, impl.Cell{X: 2})}, none},
		{[][]impl.Cell{long, append(slices.Repeat(walkOf(20), impl.MaxSteps-1), impl.Cell{X: 1})}, []int64{200, 0, 1, impl.OK}},
		// The first time counts first, and then the first pair.
		{[][]impl.Cell{walkOf(0, 10), walkOf(20, 10), walkOf(12), walkOf(12)}, []int64{0, 2, 3, impl.OK}},
		{[][]impl.Cell{walkOf(0, 10), walkOf(20, 10), walkOf(2, 12), walkOf(11, 12)}, []int64{1, 0, 1, impl.OK}},
		{[][]impl.Cell{walkOf(0), walkOf(20), walkOf(20), walkOf(0)}, []int64{0, 0, 3, impl.OK}},
		{[][]impl.Cell{walkOf(0), walkOf(20), walkOf(12), walkOf(12), walkOf(20)}, []int64{0, 1, 4, impl.OK}},
		{[][]impl.Cell{walkOf(0), walkOf(10), walkOf(10), walkOf(10), walkOf(10), walkOf(10)}, []int64{0, 1, 2, impl.OK}},
		{[][]impl.Cell{walkOf(0), walkOf(10), walkOf(11), walkOf(12), walkOf(2), walkOf(2)}, []int64{0, 4, 5, impl.OK}},
	} {
		time, first, second, got := impl.FirstClash(example(), one.walks)
		same(t, fmt.Sprintf("%.80s", fmt.Sprint(one.walks)), []int64{time, first, second, got}, one.want)
	}
}

// meeting returns walks on a lawn that begin at different cells, if there are enough, some of them short.
func meeting(random *rand.Rand, l impl.Lawn, count int) [][]impl.Cell {
	open := openIn(l)
	random.Shuffle(len(open), func(i, k int) { open[i], open[k] = open[k], open[i] })
	var walks [][]impl.Cell
	long := []int{1, 3, 10, 40, impl.MaxSteps + 1}[random.Intn(5)]
	for i := range count {
		walks = append(walks, randomWalk(random, l, open[i%len(open)], 1+random.Intn(long)))
	}
	return walks
}

// P10: the first clash, compared with where all robots are at each time.
func TestPromise10Clash(t *testing.T) {
	random := rand.New(rand.NewSource(22))
	clashes, none := 0, 0
	for l := range robotLawns(150) {
		for count := range impl.MaxRobots + 1 {
			walks := meeting(random, l, count)
			want, clash := clashBy(walks)
			want = append(want, impl.ErrNotFound)
			none++
			if clash {
				want[3] = impl.OK
				none--
				clashes++
			}
			time, first, second, got := impl.FirstClash(l, walks)
			if !slices.Equal([]int64{time, first, second, got}, want) {
				t.Fatalf("%v, %v: %d, %d, %d (code %d), want %v", l, walks, time, first, second, got, want)
			}
		}
	}
	if clashes < 300 || none < 300 {
		t.Errorf("only %d clashes, and %d without", clashes, none)
	}
}

// P10: with the delay that is told robots never clash, and with each lesser one they do.
func TestPromise10Delay(t *testing.T) {
	random := rand.New(rand.NewSource(23))
	found := map[int64]int{}
	for l := range robotLawns(150) {
		for range 12 {
			walks := meeting(random, l, 2)
			a, b := walks[0], walks[1]
			want, can := delayBy(a, b)
			delay, got := impl.LeastDelay(l, a, b)
			if !can {
				same(t, "none is enough", []int64{delay, got}, []int64{0, impl.ErrNotFound})
				found[-1]++
				continue
			}
			if got != impl.OK || delay != want {
				t.Fatalf("%v, %v and %v: %d (code %d), want %d", l, a, b, delay, got, want)
			}
			for waits := int64(0); waits <= delay && len(b)+int(waits) <= impl.MaxSteps+1; waits++ {
				_, _, _, clash := impl.FirstClash(l, [][]impl.Cell{a, delayed(b, int(waits))})
				same(t, "clash", clash == impl.OK, waits < delay)
			}
			found[min(delay, 3)]++
		}
	}
	for delay := int64(-1); delay <= 3; delay++ {
		if found[delay] < 5 {
			t.Errorf("only %d with the delay %d", found[delay], delay)
		}
	}
}

// Delays that are told, up to the greatest one.
func TestLeastDelayTold(t *testing.T) {
	// On the row a is in the way of b until it has gone into the corner.
	corner := lawnOf("....", "#.##")
	for _, one := range []struct {
		l    impl.Lawn
		a, b []impl.Cell
		want []int64
	}{
		{example(), walkOf(0, 10, 20), walkOf(11, 10, 0), []int64{1, impl.OK}},
		{example(), walkOf(0, 10), walkOf(10, 0), []int64{0, impl.ErrNotFound}},
		{example(), walkOf(0), walkOf(10), []int64{0, impl.OK}},
		{example(), walkOf(0), walkOf(0), []int64{0, impl.ErrNotFound}},
		{example(), walkOf(0, 10, 20), walkOf(0, 0, 0), []int64{0, impl.ErrNotFound}},
		// A robot may not end where the other one comes, however late.
		{example(), walkOf(0, 10), walkOf(20, 10), []int64{0, impl.ErrNotFound}},
		{example(), walkOf(0, 10), walkOf(11, 10, 20), []int64{0, impl.ErrNotFound}},
		{example(), walkOf(0, 10, 20, 21), walkOf(11, 10, 0), []int64{1, impl.OK}},
		{example(), walkOf(11, 10, 20), walkOf(21, 11, 12), []int64{0, impl.OK}},
		// The one that waits is in the way.
		{example(), walkOf(0, 10, 11, 12), walkOf(11, 21), []int64{0, impl.OK}},
		{example(), walkOf(10, 11, 10), walkOf(11, 21, 11), []int64{0, impl.OK}},
		{example(), walkOf(10, 11), walkOf(11, 21, 11), []int64{0, impl.ErrNotFound}},
		{corner, append(slices.Repeat(walkOf(10), 5), walkOf(11)...), walkOf(0, 10, 20), []int64{4, impl.OK}},
		{corner, append(slices.Repeat(walkOf(10), 20), walkOf(11)...), walkOf(0, 10, 20), []int64{19, impl.OK}},
		{corner, append(slices.Repeat(walkOf(10), 21), walkOf(11)...), walkOf(0, 10, 20), []int64{20, impl.OK}},
		{corner, append(slices.Repeat(walkOf(10), 22), walkOf(11)...), walkOf(0, 10, 20), []int64{0, impl.ErrNotFound}},
		{corner, append(slices.Repeat(walkOf(10), impl.MaxSteps), walkOf(11)...), walkOf(0, 10, 20), []int64{0, impl.ErrNotFound}},
		// The delay makes a walk longer than another one may be.
		{corner, append(slices.Repeat(walkOf(10), 21), walkOf(11)...), toAndFro(impl.MaxSteps+1, impl.Cell{}, impl.Cell{X: 1}, impl.Cell{}), []int64{20, impl.OK}},
		// What happens behind the delay and the whole walk counts, too.
		{corner, append(slices.Repeat(walkOf(10), 21), walkOf(11)...), append(toAndFro(impl.MaxSteps-1, impl.Cell{}, impl.Cell{X: 1}, impl.Cell{}), walkOf(10, 11)...), []int64{0, impl.ErrNotFound}},
	} {
		name := fmt.Sprintf("%.60s and %.60s", fmt.Sprint(one.a), fmt.Sprint(one.b))
		delay, got := impl.LeastDelay(one.l, one.a, one.b)
		same(t, name, []int64{delay, got}, one.want)
	}
}
