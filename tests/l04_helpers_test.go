package tests

import (
	"iter"
	"math/rand"
	"slices"
	"strings"

	"loop.example/g01405/impl"
)

// walkOf makes a walk of numbers of cells: 12 is the cell 1, 2.
func walkOf(numbers ...int) []impl.Cell {
	var walk []impl.Cell
	for _, number := range numbers {
		walk = append(walk, impl.Cell{X: int8(number / 10), Y: int8(number % 10)})
	}
	return walk
}

// reversed returns a list from its end to its beginning.
func reversed[T any](list []T) []T {
	back := slices.Clone(list)
	slices.Reverse(back)
	return back
}

// toAndFro makes a walk of so many cells that goes from the first one to the second one, and then between that and the third one.
func toAndFro(count int, first, second, third impl.Cell) []impl.Cell {
	walk := []impl.Cell{first}
	for i := 1; i < count; i++ {
		walk = append(walk, []impl.Cell{third, second}[i%2])
	}
	return walk
}

// walkByBits tells the walk by bits as the document says it: by the letters of its ways, clockwise.
func walkByBits(l impl.Lawn, at impl.Cell, way int, bits string, steps int) []impl.Cell {
	clockwise := strings.Repeat("NESW", 40)
	way += 80
	walk := []impl.Cell{at}
	for len(walk) <= steps {
		next := gone(at, clockwise[way])
		switch {
		case hasOpen(l, next):
			at, walk = next, append(walk, next)
		case bits == "":
			return walk
		case bits[0] == '1':
			way, bits = way+1, bits[1:]
		default:
			way, bits = way-1, bits[1:]
		}
	}
	return walk
}

// randomBits returns so many bits.
func randomBits(random *rand.Rand, count int) string {
	bits := make([]byte, count)
	for i := range bits {
		bits[i] = "01"[random.Intn(2)]
	}
	return string(bits)
}

// isWalk reports whether a walk is right on a lawn that has all of its cells.
func isWalk(l impl.Lawn, walk []impl.Cell) bool {
	for i, at := range walk {
		if !isOpen(l, at) {
			return false
		}
		if i > 0 && at != walk[i-1] && !beside(at, walk[i-1]) {
			return false
		}
	}
	return len(walk) > 0
}

// randomWalk returns a right walk with so many cells, which stays now and then.
func randomWalk(random *rand.Rand, l impl.Lawn, from impl.Cell, count int) []impl.Cell {
	walk := []impl.Cell{from}
	for len(walk) < count {
		at := walk[len(walk)-1]
		if next := gone(at, letters[random.Intn(4)]); hasOpen(l, next) {
			at = next
		}
		walk = append(walk, at)
	}
	return walk
}

// chargesBy tells the charges of a walk that begins at home, up to the first cell at which there is too little, and its index or -1:
// each step to another cell uses 1, and the way of the robot since it has been at home last decides.
func chargesBy(walk []impl.Cell, home impl.Cell, full int64) ([]int64, int) {
	var charges []int64
	used := int64(0)
	for i, at := range walk {
		if i > 0 && at != walk[i-1] {
			used++
		}
		if used > full {
			return charges, i
		}
		if at == home {
			used = 0
		}
		charges = append(charges, full-used)
	}
	return charges, -1
}

// joined reports whether one can go from one cell to another one.
func joined(steps map[[2]impl.Cell]int64, a, b impl.Cell) bool {
	return steps[[2]impl.Cell{a, b}] < farthest
}

// reachBy tells the cells of grass to which a robot can go, and come home again.
func reachBy(l impl.Lawn, steps map[[2]impl.Cell]int64, home impl.Cell, full int64) []impl.Cell {
	var reach []impl.Cell
	for _, at := range grassOf(l) {
		there, back := steps[[2]impl.Cell{home, at}], steps[[2]impl.Cell{at, home}]
		if joined(steps, home, at) && there+back <= full {
			reach = append(reach, at)
		}
	}
	return reach
}

// leastBy tells the least charge with which all grass is reached to which there are steps.
func leastBy(l impl.Lawn, steps map[[2]impl.Cell]int64, home impl.Cell) int64 {
	all := len(reachBy(l, steps, home, farthest))
	for full := int64(0); ; full++ {
		if len(reachBy(l, steps, home, full)) == all {
			return full
		}
	}
}

// everyOrder goes through all orders of so many numbers, from the first one to the last one.
func everyOrder(count int) iter.Seq[[]int64] {
	return func(yield func([]int64) bool) {
		more := true
		var add func(order []int64)
		add = func(order []int64) {
			if len(order) == count {
				more = more && yield(slices.Clone(order))
			}
			for i := range int64(count) {
				if more && !slices.Contains(order, i) {
					add(append(slices.Clone(order), i))
				}
			}
		}
		add(nil)
	}
}

// tripBy tells the first order of targets with the fewest steps, and these.
func tripBy(steps map[[2]impl.Cell]int64, home impl.Cell, targets []impl.Cell) ([]int64, int64) {
	var best []int64
	fewest := int64(farthest)
	for order := range everyOrder(len(targets)) {
		at, sum := home, int64(0)
		for _, i := range order {
			sum += steps[[2]impl.Cell{at, targets[i]}]
			at = targets[i]
		}
		sum += steps[[2]impl.Cell{at, home}]
		if sum < fewest {
			best, fewest = order, sum
		}
	}
	return best, fewest
}

// areTrips reports whether all trips need at most full steps.
func areTrips(steps map[[2]impl.Cell]int64, home impl.Cell, full int64, targets []impl.Cell, trips []int64) bool {
	by := map[int64][]impl.Cell{}
	for i, number := range trips {
		by[number] = append(by[number], targets[i])
	}
	for _, some := range by {
		if _, sum := tripBy(steps, home, some); sum > full {
			return false
		}
	}
	return true
}

// everyTrips goes through all numbers, 0 to most - 1, for so many targets, from the first list to the last one.
func everyTrips(count int, most int64) iter.Seq[[]int64] {
	return func(yield func([]int64) bool) {
		trips := make([]int64, count)
		for {
			if !yield(slices.Clone(trips)) {
				return
			}
			i := count - 1
			for ; i >= 0 && trips[i] == most-1; i-- {
				trips[i] = 0
			}
			if i < 0 {
				return
			}
			trips[i]++
		}
	}
}

// different tells how many different numbers there are.
func different(numbers []int64) int64 {
	known := map[int64]bool{}
	for _, number := range numbers {
		known[number] = true
	}
	return int64(len(known))
}

// fewestBy tells the first list of trips with the fewest numbers, of all lists, and how many these are; each target alone is within full.
func fewestBy(steps map[[2]impl.Cell]int64, home impl.Cell, full int64, targets []impl.Cell) ([]int64, int64) {
	var best []int64
	fewest := int64(farthest)
	for trips := range everyTrips(len(targets), int64(max(1, len(targets)))) {
		if n := different(trips); n < fewest && areTrips(steps, home, full, targets, trips) {
			best, fewest = trips, n
		}
	}
	return best, fewest
}

// placesOf tells where all robots are at each time, up to one at which all of them stay.
func placesOf(walks [][]impl.Cell) [][]impl.Cell {
	var places [][]impl.Cell
	for time := range impl.MaxSteps + impl.MaxDelay + 2 {
		var now []impl.Cell
		for i, walk := range walks {
			if time < len(walk) {
				now = append(now, walk[time])
			} else {
				now = append(now, places[time-1][i])
			}
		}
		places = append(places, now)
	}
	return places
}

// clashBy tells the first clash, and whether there is one.
func clashBy(walks [][]impl.Cell) ([]int64, bool) {
	places := placesOf(walks)
	for time, now := range places {
		for i := range walks {
			for k := i + 1; k < len(walks); k++ {
				meet := now[i] == now[k]
				if time > 0 {
					meet = meet || now[i] == places[time-1][k] && now[k] == places[time-1][i]
				}
				if meet {
					return []int64{int64(time), int64(i), int64(k)}, true
				}
			}
		}
	}
	return []int64{0, 0, 0}, false
}

// delayed returns a walk that stays so long at first.
func delayed(walk []impl.Cell, delay int) []impl.Cell {
	var late []impl.Cell
	for range delay {
		late = append(late, walk[0])
	}
	return append(late, walk...)
}

// delayBy tells the least delay, and whether there is one.
func delayBy(a, b []impl.Cell) (int64, bool) {
	for delay := range impl.MaxDelay + 1 {
		if _, clash := clashBy([][]impl.Cell{a, delayed(b, delay)}); !clash {
			return int64(delay), true
		}
	}
	return 0, false
}

// robotLawns goes through lawns with an open cell: small ones, those of one kind, and some of any size, the same ones each time.
func robotLawns(count int) iter.Seq[impl.Lawn] {
	return func(yield func(impl.Lawn) bool) {
		lawns := []impl.Lawn{example(), mowing(), lawnOf("."), lawnOf("="), lawnOf(".#."), lawnOf("...="), lawnOf("T=T", ".#."), fullLawn(10, 10, 0), fullLawn(10, 10, 3), snake()}
		for l := range everyLawn(2, 2) {
			lawns = append(lawns, l)
		}
		for l := range mixedLawns(count) {
			lawns = append(lawns, l)
		}
		for _, l := range lawns {
			if len(openIn(l)) > 0 && !yield(l) {
				return
			}
		}
	}
}

// snake is a lawn on which the steps are as many as on few others.
func snake() impl.Lawn {
	return lawnOf("..........", "#########.", "..........", ".#########", "..........", "#########.", "..........", ".#########", "..........", "#########=")
}

// closedIn lists all cells that are not open.
func closedIn(l impl.Lawn) []impl.Cell {
	return slices.DeleteFunc(cellsOf(l), func(at impl.Cell) bool { return isOpen(l, at) })
}

// anyOf returns one of a list.
func anyOf[T any](random *rand.Rand, list []T) T { return list[random.Intn(len(list))] }

// someOf returns so many of a list, one of them twice now and then.
func someOf[T any](random *rand.Rand, list []T, count int) []T {
	var some []T
	for range count {
		some = append(some, anyOf(random, list))
	}
	return some
}

// noWalkTexts returns texts that are those of no walk.
func noWalkTexts() []string {
	list := []string{
		"x", " ", "  ", ",", ", ,", "1", "12", "1,", ",1", "1,2,3", "1,2,", ",1,2", "1,,2", "1.2", "1;2", "1/2", "1 2", "1, 2", "1 ,2",
		"01,2", "1,02", "00,0", "+1,2", "1,+2", "-1,2", "1,-2", "-0,0", "0,-0", "10,2", "2,10", "10,10", "1,2 3,10", "99,99", "0x1,2", "1e0,2", "1_0,2",
		" 1,2", "1,2 ", "1,2  3,4", " 1,2 3,4", "1,2 3,4 ", "1,2\t3,4", "1,2\n", "1,2\n3,4", "\n", "1,2 3", "1,2 3,", "1,2 ,3", "1,2 x", "1,2 3,4,5", "1,23,4",
		"\x00", "1,2\x00", "\x001,2", "1,\x002", "١,٢", "１,２", "²,1", "1,a", "a,1", "-,1", "+,1", "256,0", "0,256", "18446744073709551616,0", "1,2\u00a03,4", "\xff",
		strings.Repeat("0,0 ", 200), strings.Repeat("0,0 ", 201) + "0,0", strings.Repeat("0,0 ", 1000) + "0,0", strings.Repeat("0,0 ", 200) + "0,0 ", strings.Repeat("0,0 ", 200) + "0,0,0", strings.Repeat(" ", 200), strings.Repeat(" ", 100000), strings.Repeat("9", 100000) + ",1", strings.Repeat("0,0 ", 100000),
	}
	for b := range 256 {
		other := string([]byte{byte(b)})
		if b < '0' || b > '9' {
			list = append(list, other+",0", "0,"+other)
		}
		if b != ',' {
			list = append(list, "0"+other+"0")
		}
		if b != ' ' {
			list = append(list, "0,0"+other+"0,0")
		}
	}
	return list
}
