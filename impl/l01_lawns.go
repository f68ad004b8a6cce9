package impl

import (
	"iter"
	"slices"
	"strings"
)

// Codes of errors.
const (
	OK          = 0
	ErrInvalid  = 1
	ErrRange    = 2
	ErrLimit    = 3
	ErrState    = 4
	ErrSyntax   = 5
	ErrNotFound = 6
	ErrBudget   = 7
	ErrProof    = 8
)

// MaxSide is the greatest side of a lawn.
const MaxSide = 10

// Kinds of cells.
const (
	LaGrass = 0
	LaBed   = 1
	LaTree  = 2
	LaPath  = 3
)

// kindLetters has the letter of each kind at the place of its number.
const kindLetters = ".#T="

// codeNames has the name of each code at the place of its number.
var codeNames = [9]string{
	OK:          "ok",
	ErrInvalid:  "invalid",
	ErrRange:    "range",
	ErrLimit:    "limit",
	ErrState:    "state",
	ErrSyntax:   "syntax",
	ErrNotFound: "notfound",
	ErrBudget:   "budget",
	ErrProof:    "proof",
}

// Cell is a cell of a lawn.
type Cell struct {
	X int8
	Y int8
}

// Lawn has cells.
type Lawn struct {
	Wide  int8
	High  int8
	Cells [10][10]uint8
}

// Run has cells of grass behind each other.
type Run struct {
	At   Cell
	Long int8
}

// The cells beside one; from a cell of a valid lawn none of them overflows.

func (c Cell) north() Cell { return Cell{X: c.X, Y: c.Y - 1} }
func (c Cell) west() Cell  { return Cell{X: c.X - 1, Y: c.Y} }
func (c Cell) east() Cell  { return Cell{X: c.X + 1, Y: c.Y} }
func (c Cell) south() Cell { return Cell{X: c.X, Y: c.Y + 1} }

// sides returns the ways to the four cells beside a cell.
func sides() [4]func(Cell) Cell {
	return [4]func(Cell) Cell{Cell.north, Cell.west, Cell.east, Cell.south}
}

// eachCell goes through all cells, ordered.
func (l Lawn) eachCell() iter.Seq[Cell] {
	return func(yield func(Cell) bool) {
		for y := range l.High {
			for x := range l.Wide {
				if !yield(Cell{X: x, Y: y}) {
					return
				}
			}
		}
	}
}

// has reports whether there is such a cell.
func (l Lawn) has(at Cell) bool {
	return at.X >= 0 && at.X < l.Wide && at.Y >= 0 && at.Y < l.High
}

// kind returns the kind of a cell that the lawn has.
func (l Lawn) kind(at Cell) uint8 { return l.Cells[at.Y][at.X] }

// isGrass reports whether there is such a cell, and it is grass.
func (l Lawn) isGrass(at Cell) bool { return l.has(at) && l.kind(at) == LaGrass }

// isOpen reports whether there is such a cell, and it is grass or a path.
func (l Lawn) isOpen(at Cell) bool {
	return l.isGrass(at) || l.has(at) && l.kind(at) == LaPath
}

// isSide reports whether a lawn may have a side as long as n.
func isSide(n int64) bool { return n >= 1 && n <= MaxSide }

// isKind reports whether there is such a kind.
func isKind(kind int64) bool { return kind >= LaGrass && kind <= LaPath }

// CodeName returns the name of an error code.
func CodeName(code int64) string {
	if code < 0 || code >= int64(len(codeNames)) {
		return ""
	}
	return codeNames[code]
}

// ValidLawn reports whether a lawn is valid.
func ValidLawn(l Lawn) bool {
	if !isSide(int64(l.Wide)) || !isSide(int64(l.High)) {
		return false
	}
	var kinds [10][10]uint8
	for at := range l.eachCell() {
		if !isKind(int64(l.kind(at))) {
			return false
		}
		kinds[at.Y][at.X] = l.kind(at)
	}
	// Only what lies outside of the cells can differ, and has to be 0.
	return l.Cells == kinds
}

// SameLawn reports whether two lawns are equal.
func SameLawn(a, b Lawn) bool { return a == b }

// NewLawn returns the lawn with grass alone.
func NewLawn(wide, high int64) (Lawn, int64) {
	if !isSide(wide) || !isSide(high) {
		return Lawn{}, ErrRange
	}
	return Lawn{Wide: int8(wide), High: int8(high)}, OK
}

// checkCells returns the code of a lawn and of cells that it has to have.
func checkCells(l Lawn, list ...Cell) int64 {
	if !ValidLawn(l) {
		return ErrInvalid
	}
	for _, at := range list {
		if !l.has(at) {
			return ErrRange
		}
	}
	return OK
}

// KindAt returns the kind of a cell.
func KindAt(l Lawn, at Cell) (int64, int64) {
	if code := checkCells(l, at); code != OK {
		return 0, code
	}
	return int64(l.kind(at)), OK
}

// SetCell replaces the kind of a cell.
func SetCell(l Lawn, at Cell, kind int64) (Lawn, int64) {
	if code := checkCells(l, at); code != OK {
		return Lawn{}, code
	}
	if !isKind(kind) {
		return Lawn{}, ErrRange
	}
	l.Cells[at.Y][at.X] = uint8(kind)
	return l, OK
}

// CountKind returns how many cells of a kind there are.
func CountKind(l Lawn, kind int64) (int64, int64) {
	list, code := CellsOf(l, kind)
	return int64(len(list)), code
}

// CellsOf returns all cells of a kind.
func CellsOf(l Lawn, kind int64) ([]Cell, int64) {
	if !ValidLawn(l) {
		return nil, ErrInvalid
	}
	if !isKind(kind) {
		return nil, ErrRange
	}
	var list []Cell
	for at := range l.eachCell() {
		if int64(l.kind(at)) == kind {
			list = append(list, at)
		}
	}
	return list, OK
}

// stepsOver returns how many steps it takes at least to each cell to which one can come over cells that pass.
func stepsOver(from Cell, pass func(Cell) bool) map[Cell]int64 {
	steps := map[Cell]int64{from: 0}
	queue := []Cell{from}
	for len(queue) > 0 {
		at := queue[0]
		queue = queue[1:]
		for _, side := range sides() {
			next := side(at)
			if _, known := steps[next]; known || !pass(next) {
				continue
			}
			steps[next] = steps[at] + 1
			queue = append(queue, next)
		}
	}
	return steps
}

// pieceFrom returns the piece of a cell of grass, ordered.
func pieceFrom(l Lawn, from Cell) []Cell {
	steps := stepsOver(from, l.isGrass)
	var piece []Cell
	for at := range l.eachCell() {
		if _, reached := steps[at]; reached {
			piece = append(piece, at)
		}
	}
	return piece
}

// PiecesOf returns all pieces of grass.
func PiecesOf(l Lawn) ([][]Cell, int64) {
	if !ValidLawn(l) {
		return nil, ErrInvalid
	}
	var pieces [][]Cell
cells:
	for at := range l.eachCell() {
		if !l.isGrass(at) {
			continue
		}
		for _, piece := range pieces {
			if slices.Contains(piece, at) {
				continue cells
			}
		}
		pieces = append(pieces, pieceFrom(l, at))
	}
	return pieces, OK
}

// StepsFrom returns how many steps it takes to all cells.
func StepsFrom(l Lawn, from Cell) ([]int64, int64) {
	if code := checkCells(l, from); code != OK {
		return nil, code
	}
	if !l.isOpen(from) {
		return nil, ErrState
	}
	steps := stepsOver(from, l.isOpen)
	var list []int64
	for at := range l.eachCell() {
		count, reached := steps[at]
		if !reached {
			count = -1
		}
		list = append(list, count)
	}
	return list, OK
}

// StepsTo returns how many steps it takes to a cell.
func StepsTo(l Lawn, from, to Cell) (int64, int64) {
	if code := checkCells(l, from, to); code != OK {
		return 0, code
	}
	if !l.isOpen(from) || !l.isOpen(to) {
		return 0, ErrState
	}
	count, reached := stepsOver(from, l.isOpen)[to]
	if !reached {
		return 0, ErrNotFound
	}
	return count, OK
}

// alongRuns returns the ways to the cell before and to the cell behind one in a run.
func alongRuns(across bool) (before, behind func(Cell) Cell) {
	if across {
		return Cell.west, Cell.east
	}
	return Cell.north, Cell.south
}

// runFrom returns the run with a first cell, which is grass.
func runFrom(l Lawn, first Cell, behind func(Cell) Cell) Run {
	run := Run{At: first}
	for at := first; l.isGrass(at); at = behind(at) {
		run.Long++
	}
	return run
}

// RunsOf returns all runs across, or down.
func RunsOf(l Lawn, across bool) ([]Run, int64) {
	if !ValidLawn(l) {
		return nil, ErrInvalid
	}
	before, behind := alongRuns(across)
	var runs []Run
	for at := range l.eachCell() {
		if l.isGrass(at) && !l.isGrass(before(at)) {
			runs = append(runs, runFrom(l, at, behind))
		}
	}
	return runs, OK
}

// LongestRun returns the longest run.
func LongestRun(l Lawn, across bool) (Run, int64) {
	runs, code := RunsOf(l, across)
	if code != OK {
		return Run{}, code
	}
	var longest Run
	for _, run := range runs {
		if run.Long > longest.Long {
			longest = run
		}
	}
	if longest.Long == 0 {
		return Run{}, ErrNotFound
	}
	return longest, OK
}

// BestStripes returns in which way there are fewer runs.
func BestStripes(l Lawn) (bool, int64, int64) {
	turned, code := TurnLawn(l)
	if code != OK {
		return false, 0, code
	}
	// A quarter turn makes runs across of the runs down; a lawn that it leaves as it was is counted once.
	counts := map[Lawn]int64{}
	for _, lawn := range [2]Lawn{l, turned} {
		if _, counted := counts[lawn]; !counted {
			runs, _ := RunsOf(lawn, true)
			counts[lawn] = int64(len(runs))
		}
	}
	across, down := counts[l], counts[turned]
	return across <= down, min(across, down), OK
}

// StripeOf returns the run in which a cell lies.
func StripeOf(l Lawn, at Cell, across bool) (int64, int64) {
	if code := checkCells(l, at); code != OK {
		return 0, code
	}
	if !l.isGrass(at) {
		return 0, ErrState
	}
	before, _ := alongRuns(across)
	for l.isGrass(before(at)) {
		at = before(at)
	}
	runs, _ := RunsOf(l, across)
	index := slices.IndexFunc(runs, func(run Run) bool { return run.At == at })
	return int64(index), OK
}

// MirrorLawn exchanges west and east.
func MirrorLawn(l Lawn) (Lawn, int64) {
	if !ValidLawn(l) {
		return Lawn{}, ErrInvalid
	}
	mirrored := Lawn{Wide: l.Wide, High: l.High}
	for at := range l.eachCell() {
		mirrored.Cells[at.Y][l.Wide-1-at.X] = l.kind(at)
	}
	return mirrored, OK
}

// TurnLawn turns a lawn by a quarter.
func TurnLawn(l Lawn) (Lawn, int64) {
	if !ValidLawn(l) {
		return Lawn{}, ErrInvalid
	}
	turned := Lawn{Wide: l.High, High: l.Wide}
	for at := range l.eachCell() {
		turned.Cells[at.X][l.High-1-at.Y] = l.kind(at)
	}
	return turned, OK
}

// DifferIn returns all cells whose kinds differ.
func DifferIn(a, b Lawn) ([]Cell, int64) {
	if !ValidLawn(a) || !ValidLawn(b) {
		return nil, ErrInvalid
	}
	if a.Wide != b.Wide || a.High != b.High {
		return nil, ErrState
	}
	var list []Cell
	for at := range a.eachCell() {
		if a.kind(at) != b.kind(at) {
			list = append(list, at)
		}
	}
	return list, OK
}

// LawnText returns the text of a lawn.
func LawnText(l Lawn) string {
	if !ValidLawn(l) {
		return ""
	}
	var text strings.Builder
	for at := range l.eachCell() {
		text.WriteByte(kindLetters[l.kind(at)])
		if at.X == l.Wide-1 {
			text.WriteByte('\n')
		}
	}
	return text.String()
}

// ReadLawn returns the lawn with a text.
func ReadLawn(text string) (Lawn, int64) {
	lines, ended := strings.CutSuffix(text, "\n")
	if !ended {
		return Lawn{}, ErrSyntax
	}
	// One line more than a lawn may have is enough to see that there are too many.
	rows := strings.SplitN(lines, "\n", MaxSide+1)
	l, code := NewLawn(int64(len(rows[0])), int64(len(rows)))
	if code != OK {
		return Lawn{}, ErrSyntax
	}
	for y, row := range rows {
		if len(row) != int(l.Wide) {
			return Lawn{}, ErrSyntax
		}
		for x := range len(row) {
			kind := strings.IndexByte(kindLetters, row[x])
			if kind < 0 {
				return Lawn{}, ErrSyntax
			}
			l.Cells[y][x] = uint8(kind)
		}
	}
	return l, OK
}
