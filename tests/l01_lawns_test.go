package tests

import (
	"math"
	"slices"
	"strings"
	"testing"

	"loop.example/g01405/impl"
)

// example is the lawn of the document's example.
func example() impl.Lawn { return lawnOf("..=", "#..", "..T") }

func TestConstants(t *testing.T) {
	same(t, "codes", []int64{impl.OK, impl.ErrInvalid, impl.ErrRange, impl.ErrLimit, impl.ErrState, impl.ErrSyntax, impl.ErrNotFound, impl.ErrBudget, impl.ErrProof}, []int64{0, 1, 2, 3, 4, 5, 6, 7, 8})
	same(t, "kinds", []int64{impl.LaGrass, impl.LaBed, impl.LaTree, impl.LaPath}, []int64{0, 1, 2, 3})
	same(t, "side", impl.MaxSide, 10)
}

func TestCodeName(t *testing.T) {
	for i, name := range []string{"ok", "invalid", "range", "limit", "state", "syntax", "notfound", "budget", "proof"} {
		same(t, "name", impl.CodeName(int64(i)), name)
	}
	for _, number := range []int64{-1, 9, 10, 256, 1 << 32, math.MinInt64, math.MaxInt64} {
		same(t, "no code", impl.CodeName(number), "")
	}
}

func TestValidLawn(t *testing.T) {
	for l := range manyLawns() {
		if !impl.ValidLawn(l) {
			t.Fatalf("%v is valid", l)
		}
	}
	for name, l := range badLawns() {
		if impl.ValidLawn(l) {
			t.Errorf("%s: not valid", name)
		}
	}
}

// Each place that is no cell has to be 0, whatever the size.
func TestValidLawnPlaces(t *testing.T) {
	for _, size := range [][2]int8{{1, 1}, {3, 5}, {10, 9}, {9, 10}, {10, 10}} {
		l := fullLawn(size[0], size[1], impl.LaPath)
		for y := range int8(10) {
			for x := range int8(10) {
				one := l
				one.Cells[y][x] = 1
				same(t, "place", impl.ValidLawn(one), x < l.Wide && y < l.High)
				one.Cells[y][x] = 4
				same(t, "kind 4", impl.ValidLawn(one), false)
			}
		}
	}
}

func TestSameLawn(t *testing.T) {
	bad := badLawns()
	all := []impl.Lawn{example(), lawnOf("..=", "#..", ".=T"), lawnOf("..=", "#.."), lawnOf("...", "..."), lawnOf("..", "..", "..")}
	for _, name := range []string{"no sides", "too wide", "kind 4", "right of it", "below it", "all places", "kind outside"} {
		all = append(all, bad[name])
	}
	for i, a := range all {
		for j, b := range all {
			same(t, "same", impl.SameLawn(a, b), i == j)
		}
	}
}

func TestNewLawn(t *testing.T) {
	sides := []int64{math.MinInt64, math.MinInt64 + 1, -255, -1, 11, 127, 128, 256, 257, 1<<32 + 1, math.MaxInt64}
	for n := range int64(11) {
		sides = append(sides, n)
	}
	for _, wide := range sides {
		for _, high := range sides {
			l, got := impl.NewLawn(wide, high)
			if wide >= 1 && wide <= 10 && high >= 1 && high <= 10 {
				code(t, "new", got, impl.OK)
				same(t, "new", l, fullLawn(int8(wide), int8(high), impl.LaGrass))
			} else {
				code(t, "no side", got, impl.ErrRange)
				same(t, "no side", l, impl.Lawn{})
			}
		}
	}
}

func TestKindAt(t *testing.T) {
	for l := range mixedLawns(40) {
		for _, at := range cellsOf(l) {
			kind, got := impl.KindAt(l, at)
			code(t, "kind", got, impl.OK)
			same(t, "kind", kind, kindOf(l, at))
		}
	}
}

func TestSetCell(t *testing.T) {
	for l := range mixedLawns(40) {
		for _, at := range cellsOf(l) {
			for kind := range int64(4) {
				set, got := impl.SetCell(l, at, kind)
				want := l
				want.Cells[at.Y][at.X] = uint8(kind)
				code(t, "set", got, impl.OK)
				same(t, "set", set, want)
			}
		}
	}
}

func TestKindsOutOfRange(t *testing.T) {
	l := example()
	for _, kind := range []int64{-1, 4, 255, 256, 259, 1 << 32, math.MinInt64, math.MaxInt64} {
		set, got := impl.SetCell(l, impl.Cell{}, kind)
		code(t, "SetCell", got, impl.ErrRange)
		same(t, "SetCell", set, impl.Lawn{})
		count, got := impl.CountKind(l, kind)
		code(t, "CountKind", got, impl.ErrRange)
		same(t, "CountKind", count, int64(0))
		cells, got := impl.CellsOf(l, kind)
		code(t, "CellsOf", got, impl.ErrRange)
		same(t, "CellsOf", cells, []impl.Cell(nil))
	}
}

func TestCellsOfKind(t *testing.T) {
	trees, _ := impl.CellsOf(lawnOf("T.T", "=TT"), impl.LaTree)
	same(t, "ordered", trees, []impl.Cell{{X: 0}, {X: 2}, {X: 1, Y: 1}, {X: 2, Y: 1}})
	for l := range manyLawns() {
		sum := int64(0)
		for kind := range int64(4) {
			want := slices.DeleteFunc(cellsOf(l), func(at impl.Cell) bool { return kindOf(l, at) != kind })
			cells, got := impl.CellsOf(l, kind)
			code(t, "cells", got, impl.OK)
			same(t, "cells", cells, want)
			count, got := impl.CountKind(l, kind)
			code(t, "count", got, impl.OK)
			same(t, "count", count, int64(len(want)))
			sum += count
		}
		same(t, "all kinds", sum, int64(l.Wide)*int64(l.High))
	}
}

// farthest is more than any number of steps.
const farthest = 1000

// stepsBetween tells the steps between all open cells by shortening ways over each cell, one after the other.
func stepsBetween(l impl.Lawn) map[[2]impl.Cell]int64 {
	open := slices.DeleteFunc(cellsOf(l), func(at impl.Cell) bool { return !isOpen(l, at) })
	steps := map[[2]impl.Cell]int64{}
	for _, a := range open {
		for _, b := range open {
			steps[[2]impl.Cell{a, b}] = farthest
			if beside(a, b) {
				steps[[2]impl.Cell{a, b}] = 1
			}
		}
		steps[[2]impl.Cell{a, a}] = 0
	}
	for _, over := range open {
		for _, a := range open {
			for _, b := range open {
				far := steps[[2]impl.Cell{a, over}] + steps[[2]impl.Cell{over, b}]
				steps[[2]impl.Cell{a, b}] = min(steps[[2]impl.Cell{a, b}], far)
			}
		}
	}
	return steps
}

func checkSteps(t *testing.T, l impl.Lawn) {
	t.Helper()
	steps := stepsBetween(l)
	cells := cellsOf(l)
	for _, from := range cells {
		list, got := impl.StepsFrom(l, from)
		if !isOpen(l, from) {
			code(t, "from no open cell", got, impl.ErrState)
			same(t, "from no open cell", list, []int64(nil))
		} else if len(list) != len(cells) || got != impl.OK {
			t.Fatalf("%d steps with code %d on %v", len(list), got, l)
		}
		for i, to := range cells {
			count, got := impl.StepsTo(l, from, to)
			far, known := steps[[2]impl.Cell{from, to}]
			switch {
			case !isOpen(l, from):
				code(t, "to", got, impl.ErrState)
			case !known:
				code(t, "to", got, impl.ErrState)
				same(t, "no open cell", list[i], int64(-1))
			case far >= farthest:
				code(t, "to", got, impl.ErrNotFound)
				same(t, "apart", list[i], int64(-1))
			default:
				code(t, "to", got, impl.OK)
				same(t, "to", count, far)
				same(t, "from", list[i], far)
			}
			if got != impl.OK {
				same(t, "with an error", count, int64(0))
			}
		}
	}
}

func TestSteps(t *testing.T) {
	checkSteps(t, example())
	for l := range everyLawn(2, 2) {
		checkSteps(t, l)
	}
	for l := range everyLawn(4, 1) {
		checkSteps(t, l)
	}
	for l := range mixedLawns(24) {
		checkSteps(t, l)
	}
}

// Paths are open, beds and trees are not, and a way may have to go around them.
func TestStepsAround(t *testing.T) {
	l := lawnOf(".#...", ".T.#.", "..=#.", "##.#.", "....=")
	list, got := impl.StepsFrom(l, impl.Cell{})
	code(t, "around", got, impl.OK)
	same(t, "around", list, []int64{0, -1, 6, 7, 8, 1, -1, 5, -1, 9, 2, 3, 4, -1, 10, -1, -1, 5, -1, 9, 8, 7, 6, 7, 8})
	snake := lawnOf("..........", "#########.", "..........", ".#########", "..........", "#########.", "..........", ".#########", "..........", "#########=")
	far, got := impl.StepsTo(snake, impl.Cell{}, impl.Cell{X: 9, Y: 9})
	code(t, "snake", got, impl.OK)
	same(t, "snake", far, int64(54))
	alone, got := impl.StepsFrom(lawnOf("="), impl.Cell{})
	code(t, "alone", got, impl.OK)
	same(t, "alone", alone, []int64{0})
}

// Cells that touch at a corner alone are not beside each other.
func TestStepsCorner(t *testing.T) {
	l := lawnOf(".#", "#.")
	_, got := impl.StepsTo(l, impl.Cell{}, impl.Cell{X: 1, Y: 1})
	code(t, "corner", got, impl.ErrNotFound)
	list, _ := impl.StepsFrom(l, impl.Cell{})
	same(t, "corner", list, []int64{0, -1, -1, -1})
	pieces, _ := impl.PiecesOf(l)
	same(t, "pieces", pieces, [][]impl.Cell{{{}}, {{X: 1, Y: 1}}})
}

func TestLongestRun(t *testing.T) {
	for _, one := range []struct {
		rows   []string
		across bool
		want   impl.Run
	}{
		{[]string{"."}, true, impl.Run{Long: 1}},
		{[]string{"."}, false, impl.Run{Long: 1}},
		{[]string{"..#..."}, true, impl.Run{At: impl.Cell{X: 3}, Long: 3}},
		{[]string{"..#.."}, true, impl.Run{Long: 2}},
		{[]string{"#..", "..#"}, true, impl.Run{At: impl.Cell{X: 1}, Long: 2}},
		{[]string{"#.", "..", ".#"}, false, impl.Run{At: impl.Cell{X: 1}, Long: 2}},
		{[]string{"=T", ".#", "#.", ".."}, false, impl.Run{At: impl.Cell{X: 1, Y: 2}, Long: 2}},
	} {
		run, got := impl.LongestRun(lawnOf(one.rows...), one.across)
		code(t, "longest", got, impl.OK)
		same(t, strings.Join(one.rows, "/"), run, one.want)
	}
	run, _ := impl.LongestRun(fullLawn(10, 10, impl.LaGrass), true)
	same(t, "full", run, impl.Run{Long: 10})
	for kind := uint8(1); kind < 4; kind++ {
		for _, across := range []bool{false, true} {
			run, got := impl.LongestRun(fullLawn(10, 10, kind), across)
			code(t, "no grass", got, impl.ErrNotFound)
			same(t, "no grass", run, impl.Run{})
		}
	}
}

func TestBestStripes(t *testing.T) {
	for _, one := range []struct {
		rows   []string
		across bool
		few    int64
	}{
		{[]string{"."}, true, 1},
		{[]string{"#"}, true, 0},
		{[]string{"T=", "#T"}, true, 0},
		{[]string{"..."}, true, 1},
		{[]string{".", ".", "."}, false, 1},
		{[]string{"...", "..."}, true, 2},
		{[]string{"..", "..", ".."}, false, 2},
		{[]string{".#.", ".#."}, false, 2},
		{[]string{"..", "##", ".."}, true, 2},
		{[]string{".#", "#."}, true, 2},
	} {
		across, few, got := impl.BestStripes(lawnOf(one.rows...))
		code(t, "best", got, impl.OK)
		same(t, strings.Join(one.rows, "/"), across, one.across)
		same(t, strings.Join(one.rows, "/"), few, one.few)
	}
	for l := range manyLawns() {
		across, few, _ := impl.BestStripes(l)
		runs, _ := impl.RunsOf(l, true)
		down, _ := impl.RunsOf(l, false)
		same(t, "across", across, len(runs) <= len(down))
		same(t, "few", few, int64(min(len(runs), len(down))))
	}
}

func TestStripeOf(t *testing.T) {
	for l := range manyLawns() {
		for _, across := range []bool{false, true} {
			runs, _ := impl.RunsOf(l, across)
			for _, at := range cellsOf(l) {
				want, wantCode := int64(0), int64(impl.ErrState)
				for i, run := range runs {
					if slices.Contains(cellsOfRun(run, across), at) {
						want, wantCode = int64(i), impl.OK
					}
				}
				index, got := impl.StripeOf(l, at, across)
				code(t, "stripe", got, wantCode)
				same(t, "stripe", index, want)
			}
		}
	}
}

// cellsOfRun lists the cells of a run.
func cellsOfRun(run impl.Run, across bool) []impl.Cell {
	var list []impl.Cell
	for i := range run.Long {
		at := run.At
		if across {
			at.X += i
		} else {
			at.Y += i
		}
		list = append(list, at)
	}
	return list
}

func TestMirrorLawn(t *testing.T) {
	mirrored, got := impl.MirrorLawn(lawnOf("..=#", "#.T."))
	code(t, "mirror", got, impl.OK)
	same(t, "mirror", mirrored, lawnOf("#=..", ".T.#"))
	for l := range manyLawns() {
		once, _ := impl.MirrorLawn(l)
		twice, _ := impl.MirrorLawn(once)
		same(t, "mirrored twice", twice, l)
		for _, at := range cellsOf(l) {
			same(t, "mirrored cell", kindOf(once, impl.Cell{X: l.Wide - 1 - at.X, Y: at.Y}), kindOf(l, at))
		}
		same(t, "wide", [2]int8{once.Wide, once.High}, [2]int8{l.Wide, l.High})
	}
}

func TestDifferIn(t *testing.T) {
	l := example()
	list, got := impl.DifferIn(l, lawnOf("..#", "#..", ".TT"))
	code(t, "differ", got, impl.OK)
	same(t, "differ", list, []impl.Cell{{X: 2}, {X: 1, Y: 2}})
	list, got = impl.DifferIn(l, l)
	code(t, "equal", got, impl.OK)
	same(t, "equal", list, []impl.Cell(nil))
	list, got = impl.DifferIn(fullLawn(10, 10, 0), fullLawn(10, 10, 3))
	code(t, "all", got, impl.OK)
	same(t, "all", list, cellsOf(fullLawn(10, 10, 0)))
	for _, other := range []impl.Lawn{lawnOf("..=", "#.."), lawnOf("..", "#.", ".."), lawnOf("."), fullLawn(10, 10, 0)} {
		list, got = impl.DifferIn(l, other)
		code(t, "other sides", got, impl.ErrState)
		same(t, "other sides", list, []impl.Cell(nil))
		_, got = impl.DifferIn(other, l)
		code(t, "other sides", got, impl.ErrState)
	}
	_, got = impl.DifferIn(lawnOf("..", "..", ".."), lawnOf("...", "..."))
	code(t, "turned sides", got, impl.ErrState)
}

func TestLawnText(t *testing.T) {
	same(t, "text", impl.LawnText(lawnOf(".#T=")), ".#T=\n")
	same(t, "text", impl.LawnText(example()), "..=\n#..\n..T\n")
	same(t, "greatest", impl.LawnText(fullLawn(10, 10, 2)), strings.Repeat("TTTTTTTTTT\n", 10))
	for l := range manyLawns() {
		text := impl.LawnText(l)
		same(t, "lines", strings.Count(text, "\n"), int(l.High))
		read, got := impl.ReadLawn(text)
		code(t, "read", got, impl.OK)
		same(t, "read", read, l)
	}
	for name, l := range badLawns() {
		same(t, name, impl.LawnText(l), "")
	}
}

func TestReadLawn(t *testing.T) {
	l, got := impl.ReadLawn("..=\n#..\n..T\n")
	code(t, "read", got, impl.OK)
	same(t, "read", l, example())
	line := strings.Repeat("=", 10) + "\n"
	l, got = impl.ReadLawn(strings.Repeat(line, 10))
	code(t, "greatest", got, impl.OK)
	same(t, "greatest", l, fullLawn(10, 10, 3))
	for _, text := range []string{
		"", "\n", "\n\n", ".", "..", ".\n.", "..\n..", ".\n\n", "\n.\n", ".\n\n.\n", "..\n.\n", ".\n..\n", "...\n...\n..\n",
		" \n", ". \n", " .\n", ".\n \n", "..\r\n", "\r\n", ".\n\r", "t\n", "0\n", "x\n", "G\n", ".\x00\n", "\x00\n", "é\n", ".\xff\n", "/\n", "..\n.-\n",
		strings.Repeat(".", 11) + "\n", strings.Repeat(".\n", 11), strings.Repeat(".\n", 10) + "\n", strings.Repeat(line, 10) + ".", strings.Repeat(line, 11),
		strings.Repeat(".", 257) + "\n", strings.Repeat(".\n", 257), strings.Repeat("\n", 1000000), strings.Repeat(".", 1000000), strings.Repeat(".\n", 500000),
	} {
		l, got := impl.ReadLawn(text)
		if got != impl.ErrSyntax || l != (impl.Lawn{}) {
			t.Errorf("%.30q: got %v with code %d", text, l, got)
		}
	}
}

// A text is that of a lawn if, and only if, it is what LawnText returns for the lawn that is read.
func TestReadLawnTexts(t *testing.T) {
	letters := ".#T=\nx"
	for number := range 6 * 6 * 6 * 6 * 6 * 6 {
		var text []byte
		for rest := number; rest > 0; rest /= 6 {
			text = append(text, letters[rest%6])
		}
		l, got := impl.ReadLawn(string(text))
		switch got {
		case impl.OK:
			same(t, "text", impl.LawnText(l), string(text))
		case impl.ErrSyntax:
			same(t, "no lawn", l, impl.Lawn{})
		default:
			t.Fatalf("%q: got code %d", text, got)
		}
		rows := strings.Split(string(text), "\n")
		want := len(rows) > 1 && rows[len(rows)-1] == "" && rows[0] != "" && !strings.Contains(string(text), "x")
		for _, row := range rows[:len(rows)-1] {
			want = want && len(row) == len(rows[0])
		}
		same(t, "is a text", got == impl.OK, want)
	}
}
