package tests

import (
	"fmt"
	"reflect"
	"slices"
	"strings"
	"testing"

	"loop.example/g01405/impl"
)

// call is a call of a function; results are all but the code, and the code.
type call struct {
	name    string
	results func() ([]any, int64)
}

// callsOn returns calls of all functions with a lawn.
func callsOn(l impl.Lawn, at, to impl.Cell, kind int64, across bool, other impl.Lawn) []call {
	one := func(result any, code int64) ([]any, int64) { return []any{result}, code }
	return []call{
		{"ValidLawn", func() ([]any, int64) { return one(impl.ValidLawn(l), impl.OK) }},
		{"SameLawn", func() ([]any, int64) { return one(impl.SameLawn(l, other), impl.OK) }},
		{"KindAt", func() ([]any, int64) { r, c := impl.KindAt(l, at); return one(r, c) }},
		{"SetCell", func() ([]any, int64) { r, c := impl.SetCell(l, at, kind); return one(r, c) }},
		{"CountKind", func() ([]any, int64) { r, c := impl.CountKind(l, kind); return one(r, c) }},
		{"CellsOf", func() ([]any, int64) { r, c := impl.CellsOf(l, kind); return one(r, c) }},
		{"PiecesOf", func() ([]any, int64) { r, c := impl.PiecesOf(l); return one(r, c) }},
		{"StepsFrom", func() ([]any, int64) { r, c := impl.StepsFrom(l, at); return one(r, c) }},
		{"StepsTo", func() ([]any, int64) { r, c := impl.StepsTo(l, at, to); return one(r, c) }},
		{"RunsOf", func() ([]any, int64) { r, c := impl.RunsOf(l, across); return one(r, c) }},
		{"LongestRun", func() ([]any, int64) { r, c := impl.LongestRun(l, across); return one(r, c) }},
		{"BestStripes", func() ([]any, int64) { a, n, c := impl.BestStripes(l); return []any{a, n}, c }},
		{"StripeOf", func() ([]any, int64) { r, c := impl.StripeOf(l, at, across); return one(r, c) }},
		{"MirrorLawn", func() ([]any, int64) { r, c := impl.MirrorLawn(l); return one(r, c) }},
		{"TurnLawn", func() ([]any, int64) { r, c := impl.TurnLawn(l); return one(r, c) }},
		{"DifferIn", func() ([]any, int64) { r, c := impl.DifferIn(l, other); return one(r, c) }},
		{"LawnText", func() ([]any, int64) { return one(impl.LawnText(l), impl.OK) }},
	}
}

// callsOnBare returns calls of all functions without a lawn.
func callsOnBare(number, high int64, text string) []call {
	return []call{
		{"CodeName", func() ([]any, int64) { return []any{impl.CodeName(number)}, impl.OK }},
		{"NewLawn", func() ([]any, int64) { r, c := impl.NewLawn(number, high); return []any{r}, c }},
		{"ReadLawn", func() ([]any, int64) { r, c := impl.ReadLawn(text); return []any{r}, c }},
	}
}

// spoil writes over all slices of a result, up to their capacity, and fails if two of them share memory.
func spoil(t *testing.T, name string, result any) {
	t.Helper()
	switch list := result.(type) {
	case []impl.Cell:
		spoilSlice(list, impl.Cell{X: 99, Y: 99})
	case []impl.Run:
		spoilSlice(list, impl.Run{Long: 99})
	case []int64:
		spoilSlice(list, 99)
	case []string:
		spoilSlice(list, "spoilt")
	case []impl.Weather:
		spoilSlice(list, impl.Weather{Rain: 99, Warm: 99})
	case []impl.Haul:
		spoilSlice(list, impl.Haul{Amount: 99})
	case []impl.Weeds:
		spoilSlice(list, impl.Weeds{9: 999})
	case []impl.Round:
		spoilSlice(list, impl.Round{Row: 99})
	case [][]impl.Cell:
		for i, piece := range list {
			spoilSlice(piece, impl.Cell{X: 99, Y: int8(i)})
		}
		for i, piece := range list {
			for _, at := range piece[:cap(piece)] {
				if at.Y != int8(i) {
					t.Fatalf("%s: two slices share memory", name)
				}
			}
		}
		spoilSlice(list, nil)
	}
}

func spoilSlice[T any](list []T, with T) {
	list = list[:cap(list)]
	for i := range list {
		list[i] = with
	}
}

// checkCall makes a call twice, and writes over what the first one returned.
func checkCall(t *testing.T, one call) int64 {
	t.Helper()
	first, firstCode := one.results()
	told := fmt.Sprintln(first...)
	for _, result := range first {
		if firstCode != impl.OK && !isEmptySlice(result) && !reflect.ValueOf(result).IsZero() {
			t.Errorf("%s: %v with the code %d", one.name, result, firstCode)
		}
		spoil(t, one.name, result)
	}
	second, secondCode := one.results()
	if got := fmt.Sprintln(second...); got != told || firstCode != secondCode {
		t.Errorf("%s: %s %d, and then %s %d", one.name, told, firstCode, got, secondCode)
	}
	return firstCode
}

// P1: every function returns for all arguments, and the same each time; no lawn is modified.
func TestPromise1(t *testing.T) {
	lawns := []impl.Lawn{example(), lawnOf("."), lawnOf("#"), lawnOf(".#.", "#.#"), fullLawn(10, 10, 0), fullLawn(10, 10, 3), fullLawn(10, 10, 1)}
	for l := range mixedLawns(16) {
		lawns = append(lawns, l)
	}
	for _, l := range badLawns() {
		lawns = append(lawns, l)
	}
	for i, l := range lawns {
		kept, other := l, lawns[(i+1)%len(lawns)]
		cells := append(noCells(l), impl.Cell{}, impl.Cell{X: 1}, impl.Cell{X: 1, Y: 1})
		for j, at := range cells {
			for kind := int64(-2); kind < 6; kind++ {
				for _, one := range callsOn(l, at, cells[(j+1)%len(cells)], kind, kind%2 == 0, other) {
					checkCall(t, one)
				}
			}
		}
		same(t, "lawn", l, kept)
	}
	numbers := []int64{-1 << 63, -1, 0, 1, 5, 10, 11, 127, 257, 1 << 32, 1<<63 - 1}
	texts := []string{"", "\n", ".\n", ".#T=\n", "..\n.\n", "x", "\x00\xff\n", strings.Repeat("==========\n", 10), strings.Repeat(".", 1000000), strings.Repeat("\n", 1000000)}
	for i, number := range numbers {
		for _, one := range callsOnBare(number, numbers[(i*7+1)%len(numbers)], texts[i%len(texts)]) {
			checkCall(t, one)
		}
	}
}

// withoutCode are the functions that return no code.
var withoutCode = []string{"ValidLawn", "SameLawn", "LawnText"}

// P1, conventions: a lawn that is not valid is told before any other error.
func TestInvalidFirst(t *testing.T) {
	for name, l := range badLawns() {
		for _, at := range append(noCells(l), impl.Cell{}) {
			for _, kind := range []int64{-1, 0, 4} {
				for _, one := range callsOn(l, at, impl.Cell{X: -1}, kind, true, example()) {
					if got := checkCall(t, one); !slices.Contains(withoutCode, one.name) {
						code(t, one.name+", "+name, got, impl.ErrInvalid)
					}
				}
			}
		}
		_, got := impl.DifferIn(example(), l)
		code(t, "DifferIn, "+name, got, impl.ErrInvalid)
		_, got = impl.DifferIn(l, l)
		code(t, "DifferIn, both "+name, got, impl.ErrInvalid)
	}
}

// P1, conventions: a cell that a lawn has not is told before what is told of cells.
func TestRangeBeforeState(t *testing.T) {
	closed := fullLawn(10, 10, impl.LaTree)
	for _, l := range []impl.Lawn{example(), lawnOf("#"), lawnOf("."), closed, fullLawn(3, 10, 0)} {
		for _, at := range noCells(l) {
			for _, one := range callsOn(l, at, impl.Cell{}, 0, true, l) {
				if slices.Contains([]string{"KindAt", "SetCell", "StepsFrom", "StepsTo", "StripeOf"}, one.name) {
					code(t, one.name, checkCall(t, one), impl.ErrRange)
				}
			}
			_, got := impl.StepsTo(l, impl.Cell{}, at)
			code(t, "StepsTo, last", got, impl.ErrRange)
			_, got = impl.StepsTo(l, at, at)
			code(t, "StepsTo, both", got, impl.ErrRange)
			_, got = impl.SetCell(l, at, 4)
			code(t, "SetCell, both", got, impl.ErrRange)
			_, got = impl.StripeOf(l, at, false)
			code(t, "StripeOf, down", got, impl.ErrRange)
		}
	}
}

// What is told of cells comes before what cannot be found.
func TestStateBeforeNotFound(t *testing.T) {
	l := lawnOf(".#.", "T#=")
	for _, closed := range []impl.Cell{{X: 1}, {Y: 1}} {
		for _, open := range []impl.Cell{{}, {X: 2}, {X: 2, Y: 1}} {
			_, got := impl.StepsTo(l, open, closed)
			code(t, "to", got, impl.ErrState)
			_, got = impl.StepsTo(l, closed, open)
			code(t, "from", got, impl.ErrState)
		}
		_, got := impl.StepsTo(l, closed, closed)
		code(t, "stays", got, impl.ErrState)
		_, got = impl.StepsFrom(l, closed)
		code(t, "all", got, impl.ErrState)
	}
	_, got := impl.StepsTo(l, impl.Cell{}, impl.Cell{X: 2, Y: 1})
	code(t, "apart", got, impl.ErrNotFound)
	for _, at := range []impl.Cell{{X: 1}, {Y: 1}, {X: 2, Y: 1}} {
		_, got = impl.StripeOf(l, at, true)
		code(t, "stripe", got, impl.ErrState)
	}
}

// grassOf lists all cells of grass.
func grassOf(l impl.Lawn) []impl.Cell {
	return slices.DeleteFunc(cellsOf(l), func(at impl.Cell) bool { return kindOf(l, at) != impl.LaGrass })
}

func cellOrder(a, b impl.Cell) int {
	if a.Y != b.Y {
		return int(a.Y) - int(b.Y)
	}
	return int(a.X) - int(b.X)
}

// inOnePiece reports whether all cells of a piece can be reached from its first one.
func inOnePiece(piece []impl.Cell) bool {
	reached := map[impl.Cell]bool{piece[0]: true}
	for grown := true; grown; {
		grown = false
		for _, a := range piece {
			for _, b := range piece {
				if reached[a] && !reached[b] && beside(a, b) {
					reached[b], grown = true, true
				}
			}
		}
	}
	return len(reached) == len(piece)
}

// P2: pieces have all grass, each cell once; cells beside each other are in one piece, and pieces are ordered.
func TestPromise2Pieces(t *testing.T) {
	for l := range manyLawns() {
		pieces, got := impl.PiecesOf(l)
		code(t, "pieces", got, impl.OK)
		index := map[impl.Cell]int{}
		var all, first []impl.Cell
		for i, piece := range pieces {
			if len(piece) == 0 || !slices.IsSortedFunc(piece, cellOrder) || !inOnePiece(piece) {
				t.Fatalf("piece %v of %v", piece, l)
			}
			for _, at := range piece {
				index[at] = i
			}
			all, first = append(all, piece...), append(first, piece[0])
		}
		if !slices.IsSortedFunc(first, cellOrder) {
			t.Fatalf("pieces %v of %v", pieces, l)
		}
		slices.SortFunc(all, cellOrder)
		same(t, "all grass", all, grassOf(l))
		for _, at := range grassOf(l) {
			for _, next := range []impl.Cell{{X: at.X + 1, Y: at.Y}, {X: at.X, Y: at.Y + 1}} {
				if i, grass := index[next]; grass && i != index[at] {
					t.Fatalf("%v and %v are in two pieces of %v", at, next, l)
				}
			}
		}
	}
}

func TestPromise2PiecesTold(t *testing.T) {
	pieces, _ := impl.PiecesOf(lawnOf("..=..", "#.#..", "T=T..", ".#..#"))
	same(t, "pieces", pieces, [][]impl.Cell{
		{{X: 0}, {X: 1}, {X: 1, Y: 1}},
		{{X: 3}, {X: 4}, {X: 3, Y: 1}, {X: 4, Y: 1}, {X: 3, Y: 2}, {X: 4, Y: 2}, {X: 2, Y: 3}, {X: 3, Y: 3}},
		{{Y: 3}},
	})
	pieces, _ = impl.PiecesOf(lawnOf("..##.", "#..#.", "##..."))
	same(t, "late in the east", len(pieces), 1)
	pieces, _ = impl.PiecesOf(lawnOf(".#.", ".#.", "..."))
	same(t, "joined below", pieces, [][]impl.Cell{{{X: 0}, {X: 2}, {Y: 1}, {X: 2, Y: 1}, {Y: 2}, {X: 1, Y: 2}, {X: 2, Y: 2}}})
	for kind := uint8(1); kind < 4; kind++ {
		pieces, got := impl.PiecesOf(fullLawn(10, 10, kind))
		code(t, "no grass", got, impl.OK)
		same(t, "no grass", len(pieces), 0)
	}
	pieces, _ = impl.PiecesOf(fullLawn(10, 10, 0))
	same(t, "all grass", pieces, [][]impl.Cell{cellsOf(fullLawn(10, 10, 0))})
	pieces, _ = impl.PiecesOf(lawnOf(strings.Split(strings.Repeat(".#.#.#.#.#/#.#.#.#.#./", 5), "/")[:10]...))
	same(t, "chequered", len(pieces), 50)
}

// P2: a lawn that is turned four times is as it was.
func TestPromise2Turns(t *testing.T) {
	turned, got := impl.TurnLawn(lawnOf(".=#", "T.."))
	code(t, "turn", got, impl.OK)
	same(t, "turn", turned, lawnOf("T.", ".=", ".#"))
	turned, _ = impl.TurnLawn(lawnOf("#TTTTTTTT="))
	same(t, "north becomes east", turned, lawnOf("#", "T", "T", "T", "T", "T", "T", "T", "T", "="))
	for l := range manyLawns() {
		turned := l
		for range 4 {
			next, got := impl.TurnLawn(turned)
			code(t, "turn", got, impl.OK)
			same(t, "sides", [2]int8{next.Wide, next.High}, [2]int8{turned.High, turned.Wide})
			for _, at := range cellsOf(turned) {
				same(t, "turned cell", kindOf(next, impl.Cell{X: turned.High - 1 - at.Y, Y: at.X}), kindOf(turned, at))
			}
			turned = next
		}
		same(t, "turned four times", turned, l)
	}
}

// P3: runs have each cell of grass once, cannot be made longer, and are ordered.
func TestPromise3(t *testing.T) {
	for l := range manyLawns() {
		grass := grassOf(l)
		for _, across := range []bool{false, true} {
			runs, got := impl.RunsOf(l, across)
			code(t, "runs", got, impl.OK)
			var all, first []impl.Cell
			for _, run := range runs {
				if run.Long < 1 {
					t.Fatalf("run %v of %v", run, l)
				}
				longer := cellsOfRun(impl.Run{At: run.At, Long: run.Long + 1}, across)
				before := impl.Cell{X: run.At.X, Y: run.At.Y - 1}
				if across {
					before = impl.Cell{X: run.At.X - 1, Y: run.At.Y}
				}
				if slices.Contains(grass, longer[run.Long]) || slices.Contains(grass, before) {
					t.Fatalf("run %v of %v can be made longer", run, l)
				}
				all, first = append(all, longer[:run.Long]...), append(first, run.At)
			}
			if !slices.IsSortedFunc(first, cellOrder) {
				t.Fatalf("runs %v of %v", runs, l)
			}
			slices.SortFunc(all, cellOrder)
			same(t, "all grass", all, grass)
		}
	}
}

func TestPromise3Told(t *testing.T) {
	l := lawnOf("..=..", "#.#..", "..T.=")
	runs, _ := impl.RunsOf(l, true)
	same(t, "across", runs, []impl.Run{{At: impl.Cell{}, Long: 2}, {At: impl.Cell{X: 3}, Long: 2}, {At: impl.Cell{X: 1, Y: 1}, Long: 1}, {At: impl.Cell{X: 3, Y: 1}, Long: 2}, {At: impl.Cell{Y: 2}, Long: 2}, {At: impl.Cell{X: 3, Y: 2}, Long: 1}})
	runs, _ = impl.RunsOf(l, false)
	same(t, "down", runs, []impl.Run{{At: impl.Cell{}, Long: 1}, {At: impl.Cell{X: 1}, Long: 3}, {At: impl.Cell{X: 3}, Long: 3}, {At: impl.Cell{X: 4}, Long: 2}, {At: impl.Cell{Y: 2}, Long: 1}})
	runs, _ = impl.RunsOf(fullLawn(10, 10, 0), false)
	same(t, "columns", len(runs), 10)
	same(t, "last column", runs[9], impl.Run{At: impl.Cell{X: 9}, Long: 10})
	for _, across := range []bool{false, true} {
		runs, got := impl.RunsOf(fullLawn(10, 10, 3), across)
		code(t, "no grass", got, impl.OK)
		same(t, "no grass", len(runs), 0)
		runs, _ = impl.RunsOf(lawnOf("."), across)
		same(t, "one cell", runs, []impl.Run{{Long: 1}})
	}
}

// The document's example of chapter 1.
func TestExample1(t *testing.T) {
	l := example()
	grass, _ := impl.CountKind(l, impl.LaGrass)
	pieces, _ := impl.PiecesOf(l)
	steps, _ := impl.StepsTo(l, impl.Cell{}, impl.Cell{Y: 2})
	same(t, "grass, pieces, steps", []int64{grass, int64(len(pieces)), steps}, []int64{6, 1, 4})
	across, _ := impl.RunsOf(l, true)
	same(t, "across", across, []impl.Run{{At: impl.Cell{}, Long: 2}, {At: impl.Cell{X: 1, Y: 1}, Long: 2}, {At: impl.Cell{Y: 2}, Long: 2}})
	down, _ := impl.RunsOf(l, false)
	same(t, "down", down, []impl.Run{{At: impl.Cell{}, Long: 1}, {At: impl.Cell{X: 1}, Long: 3}, {At: impl.Cell{X: 2, Y: 1}, Long: 1}, {At: impl.Cell{Y: 2}, Long: 1}})
	best, few, _ := impl.BestStripes(l)
	same(t, "stripes", []any{best, few}, []any{true, int64(3)})
	turned, _ := impl.TurnLawn(l)
	same(t, "turned", impl.LawnText(turned), ".#.\n...\nT.=\n")
}
