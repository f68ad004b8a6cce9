package tests

import (
	"fmt"
	"math/rand"
	"slices"
	"strings"
	"testing"

	"loop.example/g01405/impl"
)

func TestRobotConstants(t *testing.T) {
	same(t, "limits", []int64{impl.MaxBits, impl.MaxSteps, impl.MaxBattery, impl.MaxTargets, impl.MaxRobots, impl.MaxDelay}, []int64{64, 200, 400, 5, 6, 20})
	same(t, "ways", []int64{impl.WaNorth, impl.WaEast, impl.WaSouth, impl.WaWest}, []int64{0, 1, 2, 3})
}

// Walks by bits that are told, with turns to both sides from all ways.
func TestBitWalkTold(t *testing.T) {
	alone, cross := lawnOf("#T", ".#"), lawnOf("#=#", "...", "#.#")
	for _, one := range []struct {
		l     impl.Lawn
		at    impl.Cell
		way   int64
		bits  string
		steps int64
		want  []impl.Cell
	}{
		{example(), impl.Cell{}, impl.WaEast, "1", 9, walkOf(0, 10, 20, 21)},
		{example(), impl.Cell{}, impl.WaEast, "1", 3, walkOf(0, 10, 20, 21)},
		{example(), impl.Cell{}, impl.WaEast, "1", 2, walkOf(0, 10, 20)},
		{example(), impl.Cell{}, impl.WaEast, "1", 0, walkOf(0)},
		{example(), impl.Cell{}, impl.WaEast, "", 200, walkOf(0, 10, 20)},
		{example(), impl.Cell{}, impl.WaEast, "", 1, walkOf(0, 10)},
		{example(), impl.Cell{}, impl.WaEast, "", 0, walkOf(0)},
		{example(), impl.Cell{}, impl.WaNorth, "", 200, walkOf(0)},
		{example(), impl.Cell{}, impl.WaEast, "11", 9, walkOf(0, 10, 20, 21, 11)},
		{example(), impl.Cell{}, impl.WaEast, "111", 9, walkOf(0, 10, 20, 21, 11, 10)},
		{example(), impl.Cell{}, impl.WaEast, "110", 9, walkOf(0, 10, 20, 21, 11, 12)},
		{example(), impl.Cell{}, impl.WaEast, "1101", 9, walkOf(0, 10, 20, 21, 11, 12, 2)},
		{example(), impl.Cell{}, impl.WaEast, "0", 9, walkOf(0, 10, 20)},
		{example(), impl.Cell{}, impl.WaEast, "00", 9, walkOf(0, 10, 20, 10, 0)},
		// Bits that are not needed do nothing.
		{example(), impl.Cell{}, impl.WaEast, strings.Repeat("10", 32), 3, walkOf(0, 10, 20, 21)},
		// From a path, and from the end of the lawn, which is no cell.
		{example(), impl.Cell{X: 2}, impl.WaWest, "", 200, walkOf(20, 10, 0)},
		{example(), impl.Cell{Y: 2}, impl.WaSouth, "0", 200, walkOf(2, 12)},
		// Each way goes to its own side, and each turn leads to the way beside it.
		{cross, impl.Cell{X: 1, Y: 1}, impl.WaNorth, "", 9, walkOf(11, 10)},
		{cross, impl.Cell{X: 1, Y: 1}, impl.WaEast, "", 9, walkOf(11, 21)},
		{cross, impl.Cell{X: 1, Y: 1}, impl.WaSouth, "", 9, walkOf(11, 12)},
		{cross, impl.Cell{X: 1, Y: 1}, impl.WaWest, "", 9, walkOf(11, 1)},
		{cross, impl.Cell{X: 1}, impl.WaEast, "1", 9, walkOf(10, 11, 12)},
		{cross, impl.Cell{X: 1}, impl.WaNorth, "11", 9, walkOf(10, 11, 12)},
		{cross, impl.Cell{X: 1}, impl.WaWest, "0", 9, walkOf(10, 11, 12)},
		{cross, impl.Cell{X: 1}, impl.WaNorth, "00", 9, walkOf(10, 11, 12)},
		{cross, impl.Cell{X: 2, Y: 1}, impl.WaSouth, "1", 9, walkOf(21, 11, 1)},
		{cross, impl.Cell{X: 2, Y: 1}, impl.WaNorth, "0", 9, walkOf(21, 11, 1)},
		{cross, impl.Cell{X: 1, Y: 2}, impl.WaWest, "1", 9, walkOf(12, 11, 10)},
		{cross, impl.Cell{X: 1, Y: 2}, impl.WaEast, "0", 9, walkOf(12, 11, 10)},
		{cross, impl.Cell{Y: 1}, impl.WaNorth, "1", 9, walkOf(1, 11, 21)},
		{cross, impl.Cell{Y: 1}, impl.WaSouth, "0", 9, walkOf(1, 11, 21)},
		{cross, impl.Cell{Y: 1}, impl.WaNorth, "0101011", 9, walkOf(1, 11, 21)},
		// No open cell is beside it: all bits are turns.
		{alone, impl.Cell{Y: 1}, impl.WaNorth, strings.Repeat("1", impl.MaxBits), 200, walkOf(1)},
		{alone, impl.Cell{Y: 1}, impl.WaWest, strings.Repeat("01", impl.MaxBits/2), 1, walkOf(1)},
		{lawnOf("="), impl.Cell{}, impl.WaEast, "0", 200, walkOf(0)},
		{lawnOf("."), impl.Cell{}, impl.WaSouth, "", 0, walkOf(0)},
	} {
		name := fmt.Sprintf("%q from %v, way %d, %d steps", one.bits, one.at, one.way, one.steps)
		walk, got := impl.BitWalk(one.l, one.at, one.way, one.bits, one.steps)
		code(t, name, got, impl.OK)
		same(t, name, walk, one.want)
	}
}

// As many steps and bits as there may be.
func TestBitWalkGreatest(t *testing.T) {
	// Around four cells each step needs a bit, and around the greatest lawn every ninth one.
	round := strings.Repeat("1", impl.MaxBits)
	walk, got := impl.BitWalk(lawnOf("..", ".."), impl.Cell{}, impl.WaEast, round, impl.MaxSteps)
	code(t, "one step each", got, impl.OK)
	same(t, "one step each", len(walk), impl.MaxBits+2)
	same(t, "end", walk[impl.MaxBits+1], impl.Cell{X: 1})
	walk, got = impl.BitWalk(fullLawn(10, 10, 0), impl.Cell{}, impl.WaEast, round, impl.MaxSteps)
	code(t, "nine steps each", got, impl.OK)
	same(t, "nine steps each", len(walk), impl.MaxSteps+1)
	same(t, "end", walk[impl.MaxSteps], impl.Cell{X: 7, Y: 9})
	walk, _ = impl.BitWalk(fullLawn(10, 10, 0), impl.Cell{}, impl.WaEast, round, impl.MaxSteps-1)
	same(t, "one step less", len(walk), impl.MaxSteps)
}

func TestCheckWalkTold(t *testing.T) {
	for _, one := range []struct {
		walk []impl.Cell
		want bool
	}{
		{nil, false}, {[]impl.Cell{}, false},
		{walkOf(0), true}, {walkOf(20), true}, {walkOf(1), false}, {walkOf(22), false},
		{walkOf(0, 0), true}, {walkOf(0, 10, 10, 0), true}, {walkOf(20, 21, 20), true},
		{walkOf(0, 20), false}, {walkOf(0, 11), false}, {walkOf(10, 21), false}, {walkOf(0, 12), false}, {walkOf(2, 0), false},
		{walkOf(0, 1), false}, {walkOf(0, 1, 2), false}, {walkOf(1, 0), false}, {walkOf(21, 22), false}, {walkOf(12, 22), false},
		{walkOf(2, 12, 11, 10, 20, 21, 11, 12, 2), true}, {walkOf(2, 12, 11, 10, 20, 21, 12), false}, {walkOf(2, 10, 11), false},
		{slices.Repeat(walkOf(2), impl.MaxSteps+1), true},
		{append(slices.Repeat(walkOf(2), impl.MaxSteps), impl.Cell{}), false},
	} {
		right, got := impl.CheckWalk(example(), one.walk)
		code(t, fmt.Sprint(one.walk), got, impl.OK)
		same(t, fmt.Sprint(one.walk), right, one.want)
	}
}

// All walks of up to three cells on small lawns, and others that are right, and that are right but for one cell.
func TestCheckWalk(t *testing.T) {
	for _, l := range []impl.Lawn{example(), mowing(), lawnOf(".=#", "T.="), lawnOf("....")} {
		for _, a := range cellsOf(l) {
			for _, b := range cellsOf(l) {
				for _, c := range cellsOf(l) {
					for _, walk := range [][]impl.Cell{{a}, {a, b}, {a, b, c}} {
						right, got := impl.CheckWalk(l, walk)
						if right != isWalk(l, walk) || got != impl.OK {
							t.Fatalf("%v on %v: %v (code %d)", walk, l, right, got)
						}
					}
				}
			}
		}
	}
	random := rand.New(rand.NewSource(11))
	for l := range robotLawns(80) {
		for range 10 {
			walk := randomWalk(random, l, anyOf(random, openIn(l)), 1+random.Intn(impl.MaxSteps+1))
			right, got := impl.CheckWalk(l, walk)
			same(t, "right", []any{right, got}, []any{true, int64(impl.OK)})
			walk[random.Intn(len(walk))] = anyOf(random, cellsOf(l))
			right, got = impl.CheckWalk(l, walk)
			same(t, "one cell", []any{right, got}, []any{isWalk(l, walk), int64(impl.OK)})
		}
	}
}

func TestCoveredTold(t *testing.T) {
	for _, one := range []struct {
		walk, once, twice []impl.Cell
	}{
		{walkOf(0), walkOf(0), nil},
		{walkOf(20), nil, nil},
		{walkOf(20, 20), nil, nil},
		{walkOf(0, 0), walkOf(0), walkOf(0)},
		{walkOf(0, 10, 20, 21), walkOf(0, 10, 21), nil},
		{walkOf(21, 20, 10, 0), walkOf(0, 10, 21), nil},
		{walkOf(0, 10, 0), walkOf(0, 10), walkOf(0)},
		{walkOf(2, 12, 11, 10, 11, 12, 12), walkOf(10, 11, 2, 12), walkOf(11, 12)},
		{walkOf(12, 11, 10, 20, 10, 20, 21, 11), walkOf(10, 11, 21, 12), walkOf(10, 11)},
		{slices.Repeat(walkOf(11), impl.MaxSteps+1), walkOf(11), walkOf(11)},
	} {
		once, got := impl.CoveredBy(example(), one.walk)
		code(t, fmt.Sprint(one.walk), got, impl.OK)
		same(t, fmt.Sprint(one.walk), once, one.once)
		twice, got := impl.CoveredTwice(example(), one.walk)
		code(t, fmt.Sprint(one.walk), got, impl.OK)
		same(t, fmt.Sprint(one.walk), twice, one.twice)
	}
}

func TestCovered(t *testing.T) {
	random := rand.New(rand.NewSource(12))
	for l := range robotLawns(100) {
		for range 10 {
			walk := randomWalk(random, l, anyOf(random, openIn(l)), 1+random.Intn(impl.MaxSteps+1))
			var wantOnce, wantTwice []impl.Cell
			for _, at := range grassOf(l) {
				rest := slices.DeleteFunc(slices.Clone(walk), func(other impl.Cell) bool { return other != at })
				if len(rest) > 0 {
					wantOnce = append(wantOnce, at)
				}
				if len(rest) > 1 {
					wantTwice = append(wantTwice, at)
				}
			}
			once, got := impl.CoveredBy(l, walk)
			code(t, "once", got, impl.OK)
			same(t, "once", once, wantOnce)
			twice, got := impl.CoveredTwice(l, walk)
			code(t, "twice", got, impl.OK)
			same(t, "twice", twice, wantTwice)
		}
	}
}

// charged is a walk with its charges, or with the first cell at which there is too little.
type charged struct {
	walk    []impl.Cell
	home    impl.Cell
	full    int64
	charges []int64
	empty   int64
}

func checkCharged(t *testing.T, l impl.Lawn, one charged) {
	t.Helper()
	name := fmt.Sprintf("%.60s, home %v, full %d", fmt.Sprint(one.walk), one.home, one.full)
	charges, got := impl.ChargesAlong(l, one.walk, one.home, one.full)
	empty, gotEmpty := impl.FirstEmpty(l, one.walk, one.home, one.full)
	if one.charges == nil {
		code(t, name, got, impl.ErrNotFound)
		same(t, name, charges, []int64(nil))
		same(t, name, []int64{empty, gotEmpty}, []int64{one.empty, impl.OK})
		return
	}
	code(t, name, got, impl.OK)
	same(t, name, charges, one.charges)
	same(t, name, []int64{empty, gotEmpty}, []int64{0, impl.ErrNotFound})
}

func TestChargesTold(t *testing.T) {
	home := impl.Cell{X: 2}
	for _, one := range []charged{
		{walkOf(20), home, 0, []int64{0}, 0},
		{walkOf(20), home, 400, []int64{400}, 0},
		{walkOf(20, 10), home, 0, nil, 1},
		{walkOf(20, 10), home, 1, []int64{1, 0}, 0},
		{walkOf(20, 10, 0), home, 1, nil, 2},
		{walkOf(20, 10, 0, 10), home, 2, nil, 3},
		{walkOf(20, 10, 0, 10), home, 3, []int64{3, 2, 1, 0}, 0},
		// At home the charge is just 0 before it is full again, or it is not enough for the last step.
		{walkOf(20, 10, 20), home, 2, []int64{2, 1, 2}, 0},
		{walkOf(20, 10, 20), home, 1, nil, 2},
		{walkOf(20, 10, 20), home, 3, []int64{3, 2, 3}, 0},
		{walkOf(20, 10, 0, 10, 20), home, 4, []int64{4, 3, 2, 1, 4}, 0},
		{walkOf(20, 10, 0, 10, 20), home, 3, nil, 4},
		{walkOf(20, 10, 20, 21, 20, 10, 20), home, 2, []int64{2, 1, 2, 1, 2, 1, 2}, 0},
		{walkOf(20, 10, 20, 10, 0, 10), home, 2, nil, 5},
		{walkOf(20, 10, 20, 10, 0, 10, 20), home, 3, nil, 6},
		// Behind the first cell with too little, home does not help.
		{walkOf(20, 10, 0, 10, 20, 10), home, 2, nil, 3},
		{walkOf(20, 10, 0, 10, 20, 20), home, 0, nil, 1},
		// A home may be grass, too.
		{walkOf(0, 10, 20, 10, 0), impl.Cell{}, 4, []int64{4, 3, 2, 1, 4}, 0},
		{walkOf(2, 12, 2), impl.Cell{Y: 2}, 400, []int64{400, 399, 400}, 0},
	} {
		checkCharged(t, example(), one)
	}
}

// A robot that stays uses no charge, as the given tests have it: steps to cells beside do, as chapter 1 tells steps.
func TestChargesStay(t *testing.T) {
	home := impl.Cell{X: 2}
	for _, one := range []charged{
		{walkOf(20, 20), home, 0, []int64{0, 0}, 0},
		{walkOf(20, 20), home, 1, []int64{1, 1}, 0},
		{walkOf(20, 10, 10, 20), home, 2, []int64{2, 1, 1, 2}, 0},
		{walkOf(20, 10, 10, 10), home, 1, []int64{1, 0, 0, 0}, 0},
		{walkOf(20, 10, 10, 10, 20), home, 1, nil, 4},
		{walkOf(20, 10, 20, 20, 10), home, 2, []int64{2, 1, 2, 2, 1}, 0},
		{slices.Repeat(walkOf(20), impl.MaxSteps+1), home, 0, make([]int64, impl.MaxSteps+1), 0},
	} {
		checkCharged(t, example(), one)
	}
}

// Charges of the longest walks, with just enough and with one less.
func TestChargesGreatest(t *testing.T) {
	l, home := lawnOf("..="), impl.Cell{}
	away := toAndFro(impl.MaxSteps+1, home, impl.Cell{X: 1}, impl.Cell{X: 2})
	var charges, full []int64
	for i := range int64(impl.MaxSteps + 1) {
		charges, full = append(charges, impl.MaxSteps-i), append(full, impl.MaxBattery-i)
	}
	checkCharged(t, l, charged{away, home, impl.MaxSteps, charges, 0})
	checkCharged(t, l, charged{away, home, impl.MaxSteps - 1, nil, impl.MaxSteps})
	checkCharged(t, l, charged{away, home, impl.MaxBattery, full, 0})
	back := toAndFro(impl.MaxSteps+1, home, impl.Cell{X: 1}, home)
	charges = nil
	for i := range int64(impl.MaxSteps + 1) {
		charges = append(charges, 2-i%2)
	}
	checkCharged(t, l, charged{back, home, 2, charges, 0})
	checkCharged(t, l, charged{back, home, 1, nil, 2})
}

func TestCharges(t *testing.T) {
	random := rand.New(rand.NewSource(13))
	enough, empty := 0, 0
	for l := range robotLawns(100) {
		for range 20 {
			home := anyOf(random, openIn(l))
			walk := randomWalk(random, l, home, 1+random.Intn(40))
			full := int64(random.Intn(30))
			charges, index := chargesBy(walk, home, full)
			if index >= 0 {
				checkCharged(t, l, charged{walk, home, full, nil, int64(index)})
				empty++
			} else {
				checkCharged(t, l, charged{walk, home, full, charges, 0})
				enough++
			}
		}
	}
	if enough < 500 || empty < 500 {
		t.Errorf("only %d with enough, and %d without", enough, empty)
	}
}

func TestReachTold(t *testing.T) {
	home := impl.Cell{X: 2}
	for _, one := range []struct {
		l    impl.Lawn
		home impl.Cell
		full int64
		want []impl.Cell
	}{
		{example(), home, 0, nil},
		{example(), home, 1, nil},
		{example(), home, 2, walkOf(10, 21)},
		// To these it can go with 3, too, but not come home.
		{example(), home, 3, walkOf(10, 21)},
		{example(), home, 4, walkOf(0, 10, 11, 21)},
		{example(), home, 5, walkOf(0, 10, 11, 21)},
		{example(), home, 6, walkOf(0, 10, 11, 21, 12)},
		{example(), home, 7, walkOf(0, 10, 11, 21, 12)},
		{example(), home, 8, walkOf(0, 10, 11, 21, 2, 12)},
		{example(), home, 400, walkOf(0, 10, 11, 21, 2, 12)},
		{example(), impl.Cell{}, 0, walkOf(0)},
		{example(), impl.Cell{}, 1, walkOf(0)},
		{lawnOf("."), impl.Cell{}, 0, walkOf(0)},
		{lawnOf("="), impl.Cell{}, 400, nil},
		{lawnOf("=#.."), impl.Cell{}, 400, nil},
		{lawnOf("=#.."), impl.Cell{X: 2}, 400, walkOf(20, 30)},
		{lawnOf("=#.."), impl.Cell{X: 3}, 1, walkOf(30)},
		{lawnOf(".T", "#."), impl.Cell{}, 400, walkOf(0)},
		{fullLawn(10, 10, 3), impl.Cell{X: 5, Y: 5}, 400, nil},
		{fullLawn(10, 10, 0), impl.Cell{X: 9}, 400, cellsOf(fullLawn(10, 10, 0))},
	} {
		reach, got := impl.ReachOf(one.l, one.home, one.full)
		code(t, fmt.Sprint(one), got, impl.OK)
		same(t, fmt.Sprint(one), reach, one.want)
	}
}

func TestLeastBatteryTold(t *testing.T) {
	for _, one := range []struct {
		l    impl.Lawn
		home impl.Cell
		want int64
	}{
		{example(), impl.Cell{X: 2}, 8},
		{example(), impl.Cell{X: 1, Y: 1}, 4},
		{example(), impl.Cell{}, 8},
		{lawnOf("."), impl.Cell{}, 0},
		{lawnOf("="), impl.Cell{}, 0},
		{lawnOf("=."), impl.Cell{}, 2},
		{lawnOf(".="), impl.Cell{}, 0},
		{lawnOf("=#."), impl.Cell{}, 0},
		{lawnOf(".#."), impl.Cell{}, 0},
		{lawnOf("..#."), impl.Cell{}, 2},
		// Paths that are far need no charge.
		{lawnOf("..====="), impl.Cell{}, 2},
		{lawnOf(".====.="), impl.Cell{}, 10},
		{fullLawn(10, 10, 3), impl.Cell{}, 0},
		{fullLawn(10, 10, 0), impl.Cell{}, 36},
		{snake(), impl.Cell{}, 106},
		{snake(), impl.Cell{X: 9, Y: 9}, 108},
	} {
		least, got := impl.LeastBattery(one.l, one.home)
		code(t, fmt.Sprint(one), got, impl.OK)
		same(t, fmt.Sprint(one), least, one.want)
	}
}

func TestBestHomeTold(t *testing.T) {
	for _, one := range []struct {
		l     impl.Lawn
		home  impl.Cell
		least int64
		code  int64
	}{
		{example(), impl.Cell{X: 1, Y: 1}, 4, impl.OK},
		{lawnOf("."), impl.Cell{}, 0, impl.OK},
		{lawnOf("#."), impl.Cell{X: 1}, 0, impl.OK},
		// Of homes that are equally good the first one is told, by Y, and then by X.
		{lawnOf(".."), impl.Cell{}, 2, impl.OK},
		{lawnOf("...."), impl.Cell{X: 1}, 4, impl.OK},
		{lawnOf(".", ".", ".", "."), impl.Cell{Y: 1}, 4, impl.OK},
		{lawnOf("..", ".."), impl.Cell{}, 4, impl.OK},
		{fullLawn(10, 10, 0), impl.Cell{X: 4, Y: 4}, 20, impl.OK},
		{fullLawn(3, 3, 0), impl.Cell{X: 1, Y: 1}, 4, impl.OK},
		{lawnOf("#=.", ".=#"), impl.Cell{X: 1}, 4, impl.OK},
		{lawnOf("..", "=="), impl.Cell{}, 2, impl.OK},
		// A path may be the best home.
		{lawnOf(".=."), impl.Cell{X: 1}, 2, impl.OK},
		{lawnOf("#.#", ".=.", "#.#"), impl.Cell{X: 1, Y: 1}, 2, impl.OK},
		// No home comes to grass that lies apart.
		{lawnOf(".#."), impl.Cell{}, 0, impl.ErrNotFound},
		{lawnOf(".T", "#."), impl.Cell{}, 0, impl.ErrNotFound},
		{lawnOf("=#.="), impl.Cell{X: 2}, 0, impl.OK},
		{lawnOf("=#=."), impl.Cell{X: 3}, 0, impl.OK},
		{lawnOf(".#=."), impl.Cell{}, 0, impl.ErrNotFound},
		// Without grass any open cell is a home, and without open cells none is.
		{lawnOf("="), impl.Cell{}, 0, impl.OK},
		{lawnOf("##", "T="), impl.Cell{X: 1, Y: 1}, 0, impl.OK},
		{lawnOf("=#="), impl.Cell{}, 0, impl.OK},
		{fullLawn(10, 10, 3), impl.Cell{}, 0, impl.OK},
		{lawnOf("#"), impl.Cell{}, 0, impl.ErrNotFound},
		{lawnOf("T#"), impl.Cell{}, 0, impl.ErrNotFound},
		{fullLawn(10, 10, 1), impl.Cell{}, 0, impl.ErrNotFound},
		{fullLawn(10, 10, 2), impl.Cell{}, 0, impl.ErrNotFound},
	} {
		home, least, got := impl.BestHome(one.l)
		code(t, fmt.Sprint(one), got, one.code)
		same(t, fmt.Sprint(one), []any{home, least}, []any{one.home, one.least})
	}
}

func TestBackHomeTold(t *testing.T) {
	ring := lawnOf("===", "=T=", "===")
	for _, one := range []struct {
		l        impl.Lawn
		home, at impl.Cell
		want     []impl.Cell
		code     int64
	}{
		{example(), impl.Cell{X: 2}, impl.Cell{X: 1, Y: 1}, walkOf(11, 10, 20), impl.OK},
		{example(), impl.Cell{X: 1, Y: 1}, impl.Cell{X: 2}, walkOf(20, 10, 11), impl.OK},
		{example(), impl.Cell{X: 2}, impl.Cell{X: 2}, walkOf(20), impl.OK},
		{example(), impl.Cell{}, impl.Cell{Y: 2}, walkOf(2, 12, 11, 10, 0), impl.OK},
		{lawnOf("."), impl.Cell{}, impl.Cell{}, walkOf(0), impl.OK},
		// Of shortest walks the first one goes to the north, the west, the east, and then to the south.
		{lawnOf("..", ".."), impl.Cell{X: 1, Y: 1}, impl.Cell{}, walkOf(0, 10, 11), impl.OK},
		{lawnOf("..", ".."), impl.Cell{Y: 1}, impl.Cell{X: 1}, walkOf(10, 0, 1), impl.OK},
		{lawnOf("..", ".."), impl.Cell{}, impl.Cell{X: 1, Y: 1}, walkOf(11, 10, 0), impl.OK},
		{lawnOf("..", ".."), impl.Cell{X: 1}, impl.Cell{Y: 1}, walkOf(1, 0, 10), impl.OK},
		{ring, impl.Cell{X: 1, Y: 2}, impl.Cell{X: 1}, walkOf(10, 0, 1, 2, 12), impl.OK},
		{ring, impl.Cell{X: 1}, impl.Cell{X: 1, Y: 2}, walkOf(12, 2, 1, 0, 10), impl.OK},
		{ring, impl.Cell{X: 2, Y: 1}, impl.Cell{Y: 1}, walkOf(1, 0, 10, 20, 21), impl.OK},
		{lawnOf(".#."), impl.Cell{}, impl.Cell{X: 2}, nil, impl.ErrNotFound},
		{lawnOf(".T", "#="), impl.Cell{X: 1, Y: 1}, impl.Cell{}, nil, impl.ErrNotFound},
	} {
		walk, got := impl.BackHome(one.l, one.home, one.at)
		code(t, fmt.Sprint(one), got, one.code)
		same(t, fmt.Sprint(one), walk, one.want)
	}
	walk, got := impl.BackHome(snake(), impl.Cell{}, impl.Cell{X: 9, Y: 9})
	code(t, "snake", got, impl.OK)
	same(t, "snake", len(walk), 55)
}

// The walk home has the fewest steps, and each cell of it is the first one that comes nearer.
func TestBackHome(t *testing.T) {
	for l := range robotLawns(16) {
		steps := stepsBetween(l)
		for _, home := range openIn(l) {
			for _, at := range openIn(l) {
				walk, got := impl.BackHome(l, home, at)
				if !joined(steps, at, home) {
					code(t, "apart", got, impl.ErrNotFound)
					continue
				}
				want := []impl.Cell{at}
				for at != home {
					for _, next := range openIn(l) {
						if beside(at, next) && steps[[2]impl.Cell{next, home}] < steps[[2]impl.Cell{at, home}] {
							at = next
							break
						}
					}
					want = append(want, at)
				}
				if got != impl.OK || !slices.Equal(walk, want) {
					t.Fatalf("%v: from %v to %v %v (code %d), want %v", l, at, home, walk, got, want)
				}
			}
		}
	}
}

func TestMeetCellTold(t *testing.T) {
	for _, one := range []struct {
		l    impl.Lawn
		a, b impl.Cell
		want impl.Cell
		far  int64
		code int64
	}{
		{example(), impl.Cell{}, impl.Cell{Y: 2}, impl.Cell{X: 1, Y: 1}, 2, impl.OK},
		{example(), impl.Cell{Y: 2}, impl.Cell{}, impl.Cell{X: 1, Y: 1}, 2, impl.OK},
		{example(), impl.Cell{X: 1}, impl.Cell{X: 1}, impl.Cell{X: 1}, 0, impl.OK},
		{lawnOf("."), impl.Cell{}, impl.Cell{}, impl.Cell{}, 0, impl.OK},
		// The first one of several, whichever robot is nearer.
		{lawnOf(".."), impl.Cell{}, impl.Cell{X: 1}, impl.Cell{}, 1, impl.OK},
		{lawnOf(".."), impl.Cell{X: 1}, impl.Cell{}, impl.Cell{}, 1, impl.OK},
		{lawnOf("===="), impl.Cell{}, impl.Cell{X: 3}, impl.Cell{X: 1}, 2, impl.OK},
		{lawnOf("===="), impl.Cell{X: 3}, impl.Cell{}, impl.Cell{X: 1}, 2, impl.OK},
		{lawnOf("..", ".."), impl.Cell{}, impl.Cell{X: 1, Y: 1}, impl.Cell{X: 1}, 1, impl.OK},
		{lawnOf("..", ".."), impl.Cell{X: 1}, impl.Cell{X: 1, Y: 1}, impl.Cell{X: 1}, 1, impl.OK},
		{lawnOf("..", ".."), impl.Cell{X: 1, Y: 1}, impl.Cell{X: 1}, impl.Cell{X: 1}, 1, impl.OK},
		{lawnOf("...", "...", "..."), impl.Cell{Y: 2}, impl.Cell{X: 2, Y: 2}, impl.Cell{X: 1, Y: 2}, 1, impl.OK},
		{lawnOf(".#."), impl.Cell{}, impl.Cell{X: 2}, impl.Cell{}, 0, impl.ErrNotFound},
		{lawnOf(".T", "#="), impl.Cell{X: 1, Y: 1}, impl.Cell{}, impl.Cell{}, 0, impl.ErrNotFound},
		{lawnOf(".#.."), impl.Cell{X: 2}, impl.Cell{X: 3}, impl.Cell{X: 2}, 1, impl.OK},
		{snake(), impl.Cell{}, impl.Cell{X: 9, Y: 9}, impl.Cell{X: 5, Y: 4}, 27, impl.OK},
	} {
		meet, far, got := impl.MeetCell(one.l, one.a, one.b)
		code(t, fmt.Sprint(one), got, one.code)
		same(t, fmt.Sprint(one), []any{meet, far}, []any{one.want, one.far})
	}
}

func TestMeetCell(t *testing.T) {
	for l := range robotLawns(12) {
		steps := stepsBetween(l)
		open := openIn(l)
		for i, a := range open {
			for k := i % 3; k < len(open); k += 3 {
				b := open[k]
				want, least, wantCode := impl.Cell{}, int64(farthest), int64(impl.ErrNotFound)
				for _, at := range open {
					if far := max(steps[[2]impl.Cell{a, at}], steps[[2]impl.Cell{b, at}]); far < least {
						want, least, wantCode = at, far, impl.OK
					}
				}
				meet, far, got := impl.MeetCell(l, a, b)
				if got != wantCode || meet != want || got == impl.OK && far != least {
					t.Fatalf("%v: from %v and %v to %v in %d (code %d), want %v in %d", l, a, b, meet, far, got, want, least)
				}
			}
		}
	}
}

func TestWalkText(t *testing.T) {
	for text, walk := range map[string][]impl.Cell{
		"":                nil,
		"0,0":             walkOf(0),
		"1,2":             walkOf(12),
		"9,9":             walkOf(99),
		"0,9 9,0":         walkOf(9, 90),
		"1,1 1,0 2,0":     walkOf(11, 10, 20),
		"5,5 5,5":         walkOf(55, 55),
		"0,0 9,9 3,4 0,0": walkOf(0, 99, 34, 0),
	} {
		same(t, text, impl.WalkText(walk), text)
		read, got := impl.ReadWalk(text)
		code(t, text, got, impl.OK)
		same(t, text, read, walk)
	}
	same(t, "empty", impl.WalkText([]impl.Cell{}), "")
	for x := -128; x <= 127; x++ {
		for y := -128; y <= 127; y++ {
			at, want := impl.Cell{X: int8(x), Y: int8(y)}, ""
			if x >= 0 && x <= 9 && y >= 0 && y <= 9 {
				want = fmt.Sprintf("%d,%d", x, y)
			}
			if got := impl.WalkText([]impl.Cell{at}); got != want {
				t.Fatalf("%v: %q", at, got)
			}
			if got := impl.WalkText([]impl.Cell{{}, at, {}}); (got == "") != (want == "") {
				t.Fatalf("among others %v: %q", at, got)
			}
		}
	}
}

// A text may have MaxSteps + 1 cells, and no more.
func TestWalkTextGreatest(t *testing.T) {
	for count := range impl.MaxSteps + 10 {
		var walk []impl.Cell
		var parts []string
		for i := range count {
			walk = append(walk, impl.Cell{X: int8(i % 10), Y: int8(i / 10 % 10)})
			parts = append(parts, fmt.Sprintf("%d,%d", i%10, i/10%10))
		}
		text := strings.Join(parts, " ")
		read, got := impl.ReadWalk(text)
		if count > impl.MaxSteps+1 {
			same(t, "too many", impl.WalkText(walk), "")
			code(t, "too many", got, impl.ErrSyntax)
			same(t, "too many", read, []impl.Cell(nil))
			continue
		}
		same(t, "text", impl.WalkText(walk), text)
		code(t, "read", got, impl.OK)
		same(t, "read", read, walk)
	}
}

// Walks are read from their texts, whether they are right or not, and no other texts are read.
func TestReadWalk(t *testing.T) {
	random := rand.New(rand.NewSource(14))
	for range 300 {
		walk := someOf(random, cellsOf(fullLawn(10, 10, 0)), random.Intn(impl.MaxSteps+2))
		read, got := impl.ReadWalk(impl.WalkText(walk))
		code(t, "read", got, impl.OK)
		same(t, "read", read, walk)
	}
	for _, text := range noWalkTexts() {
		walk, got := impl.ReadWalk(text)
		if got != impl.ErrSyntax || walk != nil {
			t.Errorf("%.60q: %v (code %d)", text, walk, got)
		}
	}
	// All texts of three of these bytes.
	for number := range 15 * 15 * 15 {
		text := string([]byte{"0123456789,-+ \n"[number%15], "0123456789,-+ \n"[number/15%15], "0123456789,-+ \n"[number/225]})
		walk, got := impl.ReadWalk(text)
		isOne := text[1] == ',' && text[0] >= '0' && text[0] <= '9' && text[2] >= '0' && text[2] <= '9'
		if (got == impl.OK) != isOne || isOne && !slices.Equal(walk, []impl.Cell{{X: int8(text[0] - '0'), Y: int8(text[2] - '0')}}) {
			t.Fatalf("%q: %v (code %d)", text, walk, got)
		}
	}
}

// The document's example of chapter 4.
func TestExample4(t *testing.T) {
	l, home := example(), impl.Cell{X: 2}
	walk, got := impl.BitWalk(l, impl.Cell{}, impl.WaEast, "1", impl.MaxSteps)
	code(t, "walk", got, impl.OK)
	same(t, "walk", walk, walkOf(0, 10, 20, 21))
	covered, _ := impl.CoveredBy(l, walk)
	same(t, "covered", covered, walkOf(0, 10, 21))
	reach, _ := impl.ReachOf(l, home, 4)
	same(t, "reach", reach, walkOf(0, 10, 11, 21))
	least, _ := impl.LeastBattery(l, home)
	same(t, "least", least, int64(8))
	best, charge, _ := impl.BestHome(l)
	same(t, "best home", []any{best, charge}, []any{impl.Cell{X: 1, Y: 1}, int64(4)})
	a, b := walkOf(0, 10), walkOf(10, 0)
	for waits := range 30 {
		late := delayed(b, waits)
		time, first, second, got := impl.FirstClash(l, [][]impl.Cell{a, late})
		same(t, "clash", []int64{time, first, second, got}, []int64{1, 0, 1, impl.OK})
		time, first, second, got = impl.FirstClash(l, [][]impl.Cell{delayed(a, waits), b})
		same(t, "clash", []int64{time, first, second, got}, []int64{1, 0, 1, impl.OK})
	}
	_, got = impl.LeastDelay(l, a, b)
	code(t, "delay", got, impl.ErrNotFound)
}
