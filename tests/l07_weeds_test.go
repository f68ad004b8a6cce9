package tests

import (
	"fmt"
	"math/rand"
	"slices"
	"strings"
	"testing"

	"loop.example/g01405/impl"
)

func TestWeedConstants(t *testing.T) {
	same(t, "limits", []int64{impl.MaxDays, impl.MaxCuts}, []int64{60, 4})
	same(t, "type", impl.Weeds{1}, impl.Weeds([10]uint16{1}))
	same(t, "round", fmt.Sprintf("%+v", impl.Round{Row: 1, Hoed: true}), "{Row:1 Hoed:true}")
}

func TestValidWeeds(t *testing.T) {
	for p := range patches(300) {
		if !impl.ValidWeeds(p.l, p.w) {
			t.Fatalf("%v is valid", p)
		}
	}
	for p := range patches(8) {
		for _, w := range badWeeds(p) {
			if impl.ValidWeeds(p.l, w) {
				t.Fatalf("%v is not valid on %q", w, impl.LawnText(p.l))
			}
		}
	}
	for name, l := range badLawns() {
		for _, w := range []impl.Weeds{{}, {1}, middle().w, overgrown(fullLawn(10, 10, 0)).w} {
			same(t, name, impl.ValidWeeds(l, w), false)
		}
	}
}

// Each bit may be set where there is grass or a bed, and nowhere else.
func TestValidWeedsPlaces(t *testing.T) {
	for _, l := range []impl.Lawn{lawnOf("."), lawnOf("#"), lawnOf("T"), lawnOf(".#T="), example(), fullLawn(10, 9, 0), fullLawn(9, 10, 1), fullLawn(10, 10, 0), fullLawn(10, 10, 1), fullLawn(10, 10, 2), fullLawn(10, 10, 3)} {
		for y := range 10 {
			for x := range 16 {
				p := patch{l: l}
				p.w[y] = 1 << x
				if impl.ValidWeeds(l, p.w) != isSoundPatch(p) {
					t.Fatalf("%q, bit %d of %d: not %v", impl.LawnText(l), x, y, isSoundPatch(p))
				}
			}
		}
	}
}

func TestCountWeeds(t *testing.T) {
	for _, one := range []struct {
		p    patch
		want int64
	}{
		{middle(), 1}, {patchOf("."), 0}, {patchOf("w"), 1}, {patchOf("W"), 1}, {patchOf("#"), 0}, {patchOf("T="), 0}, {patchOf("wW.#T=w"), 3}, {patchOf("w", ".", "W"), 2},
		{overgrown(fullLawn(10, 10, 0)), 100}, {overgrown(fullLawn(10, 10, 1)), 100}, {overgrown(fullLawn(10, 10, 2)), 0}, {patch{l: fullLawn(10, 10, 0)}.with(xy(9, 9)), 1},
	} {
		count, got := impl.CountWeeds(one.p.l, one.p.w)
		same(t, one.p.String(), []int64{count, got}, []int64{one.want, impl.OK})
	}
	for p := range patches(200) {
		if count, got := impl.CountWeeds(p.l, p.w); got != impl.OK || count != p.count() {
			t.Fatalf("%v: %d (code %d), want %d", p, count, got, p.count())
		}
	}
}

// grown is a patch with those of the day behind it, for the needs 1 to 4; where one is missing it is as the patch.
type grown struct {
	p    patch
	want [4]patch
}

func grownTold() []grown {
	full := overgrown(fullLawn(10, 10, 0))
	inside := full.without(xy(5, 5)).without(xy(0, 0)).without(xy(9, 3))
	return []grown{
		{middle(), [4]patch{patchOf(".w.", "www", ".w.")}},
		// One cell.
		{patchOf("."), [4]patch{}},
		{patchOf("w"), [4]patch{}},
		{patchOf("#"), [4]patch{}},
		{patchOf("W"), [4]patch{}},
		{patchOf("T"), [4]patch{}},
		// One row and one column.
		{patchOf("w..."), [4]patch{patchOf("ww..")}},
		{patchOf("...w"), [4]patch{patchOf("..ww")}},
		{patchOf("w.w"), [4]patch{patchOf("www"), patchOf("www")}},
		{patchOf("w...w"), [4]patch{patchOf("ww.ww")}},
		{patchOf("w", ".", "."), [4]patch{patchOf("w", "w", ".")}},
		{patchOf(".", ".", "w"), [4]patch{patchOf(".", "w", "w")}},
		{patchOf("w", ".", "w"), [4]patch{patchOf("w", "w", "w"), patchOf("w", "w", "w")}},
		// As many cells beside as there are needed, and one fewer.
		{patchOf(".w.", "w.w", ".w."), [4]patch{patchOf("www", "www", "www"), patchOf("www", "www", "www"), patchOf(".w.", "www", ".w."), patchOf(".w.", "www", ".w.")}},
		{patchOf(".w.", "w.w", "..."), [4]patch{patchOf("www", "www", "w.w"), patchOf("www", "www", "..."), patchOf(".w.", "www", "...")}},
		{patchOf("...", "w.w", "..."), [4]patch{patchOf("w.w", "www", "w.w"), patchOf("...", "www", "...")}},
		{patchOf(".w.", "w..", "..."), [4]patch{patchOf("ww.", "ww.", "w..").with(xy(2, 0)), patchOf("ww.", "ww.", "...")}},
		{patchOf(".w.", "...", ".w."), [4]patch{patchOf("www", ".w.", "www"), patchOf(".w.", ".w.", ".w.")}},
		// A corner in common is not enough.
		{patchOf("w.", ".."), [4]patch{patchOf("ww", "w.")}},
		{patchOf("w.", ".w"), [4]patch{patchOf("ww", "ww"), patchOf("ww", "ww")}},
		{patchOf("w.w", "...", "w.w"), [4]patch{patchOf("www", "w.w", "www"), patchOf("www", "w.w", "www")}},
		// Beds get weeds, and give them.
		{patchOf("w#"), [4]patch{patchOf("wW")}},
		{patchOf("W."), [4]patch{patchOf("Ww")}},
		{patchOf("W#"), [4]patch{patchOf("WW")}},
		{patchOf("#W#", "###"), [4]patch{patchOf("WWW", "#W#")}},
		{patchOf("W#w"), [4]patch{patchOf("WWw"), patchOf("WWw")}},
		// Trees and paths do not, nor does one come through them.
		{patchOf("wT."), [4]patch{}},
		{patchOf("w=."), [4]patch{}},
		{patchOf("wTw"), [4]patch{}},
		{patchOf("w=w"), [4]patch{}},
		{patchOf("T=", "=T"), [4]patch{}},
		{patchOf("TwT", "=.#"), [4]patch{patchOf("TwT", "=w#")}},
		// Nothing is beside the ends of rows.
		{patchOf(".........w", "..........", ".........."), [4]patch{patchOf("........ww", ".........w", "..........")}},
		{patchOf("..........", "w.........", ".........."), [4]patch{patchOf("w.........", "ww........", "w.........")}},
		{patchOf("..w", "...", "..."), [4]patch{patchOf(".ww", "..w", "...")}},
		{patch{l: fullLawn(10, 10, 0)}.with(xy(9, 9)), [4]patch{patch{l: fullLawn(10, 10, 0)}.with(xy(9, 9)).with(xy(8, 9)).with(xy(9, 8))}},
		// No weeds, and weeds everywhere.
		{patch{l: fullLawn(10, 10, 0)}, [4]patch{}},
		{patch{l: fullLawn(10, 10, 1)}, [4]patch{}},
		{full, [4]patch{}},
		{overgrown(fullLawn(10, 10, 1)), [4]patch{}},
		{inside, [4]patch{full, full, full.without(xy(0, 0)), full.without(xy(0, 0)).without(xy(9, 3))}},
	}
}

func TestSpreadTold(t *testing.T) {
	for _, one := range grownTold() {
		for i, want := range one.want {
			if want == (patch{}) {
				want = one.p
			}
			later, got := impl.SpreadOnce(one.p.l, one.p.w, int64(i+1))
			same(t, fmt.Sprint(one.p, i+1), []any{later, got}, []any{want.w, int64(impl.OK)})
		}
	}
}

// Each day as the one before is told to spread, up to MaxDays.
func TestSpread(t *testing.T) {
	for p := range patches(150) {
		for need := int64(1); need <= 4; need++ {
			once, got := impl.SpreadOnce(p.l, p.w, need)
			if want := spreadBy(p, need); got != impl.OK || once != want.w {
				t.Fatalf("%v, need %d: %v (code %d), want %v", p, need, patch{p.l, once}, got, want)
			}
			want := p
			for days := range int64(61) {
				if days > 0 {
					want = spreadBy(want, need)
				}
				if days > 3 && days%12 != 0 {
					continue
				}
				if later, got := impl.SpreadDays(p.l, p.w, need, days); got != impl.OK || later != want.w {
					t.Fatalf("%v, need %d, %d days: %v (code %d), want %v", p, need, days, patch{p.l, later}, got, want)
				}
			}
		}
	}
}

func TestSpreadDaysTold(t *testing.T) {
	for _, one := range []struct {
		p          patch
		need, days int64
		want       patch
	}{
		{middle(), 1, 0, middle()},
		{middle(), 1, 1, patchOf(".w.", "www", ".w.")},
		{middle(), 1, 2, patchOf("www", "www", "www")},
		{middle(), 1, 60, patchOf("www", "www", "www")},
		{middle(), 2, 60, middle()},
		{patchOf("w........."), 1, 8, patchOf("wwwwwwwww.")},
		{patchOf("w........."), 1, 9, patchOf("wwwwwwwwww")},
		{patchOf("w", ".", "T", "."), 1, 60, patchOf("w", "w", "T", ".")},
		{patchOf("w..", ".w.", "..w"), 2, 1, patchOf("ww.", "www", ".ww")},
		{patchOf("w..", ".w.", "..w"), 2, 2, patchOf("www", "www", "www")},
		{patchOf("w#.", "##="), 1, 2, patchOf("wWw", "WW=")},
		{patchOf("T=", "=T"), 1, 60, patchOf("T=", "=T")},
	} {
		later, got := impl.SpreadDays(one.p.l, one.p.w, one.need, one.days)
		same(t, fmt.Sprint(one.p, one.need, one.days), []any{later, got}, []any{one.want.w, int64(impl.OK)})
	}
}

func TestDaysUntilTold(t *testing.T) {
	greatest, trail, pairs := fullLawn(10, 10, 0), longTrail(), longPairs()
	trailAll, pairsAll := daysBy(trail, 1, 100).count(), daysBy(pairs, 2, 100).count()
	for _, one := range []struct {
		p           patch
		need, weeds int64
		want, code  int64
	}{
		{middle(), 1, 0, 0, impl.OK},
		{middle(), 1, 1, 0, impl.OK},
		{middle(), 1, 2, 1, impl.OK},
		{middle(), 1, 5, 1, impl.OK},
		{middle(), 1, 6, 2, impl.OK},
		{middle(), 1, 9, 2, impl.OK},
		{middle(), 1, 10, 0, impl.ErrNotFound},
		{middle(), 1, 100, 0, impl.ErrNotFound},
		{middle(), 2, 1, 0, impl.OK},
		{middle(), 2, 2, 0, impl.ErrNotFound},
		// No weeds, which never become more, and none to come.
		{patchOf("."), 1, 0, 0, impl.OK},
		{patchOf("."), 1, 1, 0, impl.ErrNotFound},
		{patchOf("T"), 1, 0, 0, impl.OK},
		{patchOf("="), 4, 1, 0, impl.ErrNotFound},
		{patchOf("W"), 1, 1, 0, impl.OK},
		{patchOf("W"), 1, 2, 0, impl.ErrNotFound},
		{patchOf("wT."), 1, 2, 0, impl.ErrNotFound},
		{patchOf("w#="), 1, 2, 1, impl.OK},
		{patchOf("w#="), 1, 3, 0, impl.ErrNotFound},
		// As many cells as there are.
		{overgrown(greatest), 4, 100, 0, impl.OK},
		{overgrown(greatest).without(xy(5, 5)), 4, 100, 1, impl.OK},
		{overgrown(greatest).without(xy(9, 5)), 4, 100, 0, impl.ErrNotFound},
		{overgrown(greatest).without(xy(9, 5)), 3, 100, 1, impl.OK},
		{overgrown(greatest).without(xy(9, 9)), 3, 100, 0, impl.ErrNotFound},
		{overgrown(withCell(greatest, xy(0, 9), 3)), 1, 100, 0, impl.ErrNotFound},
		{patch{l: greatest}.with(xy(0, 0)), 1, 100, 18, impl.OK},
		{patch{l: greatest}.with(xy(0, 0)), 1, 99, 17, impl.OK},
		{patch{l: greatest}.with(xy(9, 9)), 1, 3, 1, impl.OK},
		{patch{l: greatest}, 1, 100, 0, impl.ErrNotFound},
		// More days than MaxDays: it does come to be so.
		{trail, 1, trailAll, 62, impl.OK},
		{trail, 1, trailAll + 1, 0, impl.ErrNotFound},
		{pairs, 2, pairsAll, 71, impl.OK},
		{pairs, 2, pairsAll - 1, 70, impl.OK},
		{pairs, 2, pairsAll + 1, 0, impl.ErrNotFound},
	} {
		days, got := impl.DaysUntil(one.p.l, one.p.w, one.need, one.weeds)
		same(t, fmt.Sprint(one.p, one.need, one.weeds), []int64{days, got}, []int64{one.want, one.code})
	}
}

func TestDaysUntil(t *testing.T) {
	codes := map[int64]int{}
	for p := range patches(120) {
		for need := int64(1); need <= 4; need++ {
			now, days := p, int64(0)
			for weeds := range int64(101) {
				// No lawn has more cells than days enough for all of them.
				for now.count() < weeds && days < 100 {
					now = spreadBy(now, need)
					if days++; now == spreadBy(now, need) && now.count() < weeds {
						days = 100
					}
				}
				want, wantCode := days, int64(impl.OK)
				if now.count() < weeds {
					want, wantCode = 0, impl.ErrNotFound
				}
				if until, got := impl.DaysUntil(p.l, p.w, need, weeds); until != want || got != wantCode {
					t.Fatalf("%v, need %d, %d weeds: %d (code %d), want %d (code %d)", p, need, weeds, until, got, want, wantCode)
				}
				codes[wantCode]++
			}
		}
	}
	if codes[impl.OK] < 1000 || codes[impl.ErrNotFound] < 1000 {
		t.Errorf("codes %v", codes)
	}
}

func TestClearTold(t *testing.T) {
	mixed := patchOf("wW.", "Www", "..W", "T#=")
	for _, one := range []struct {
		p              patch
		row            int64
		cut, hoed      patch
		byCut, byHoing int64
	}{
		{middle(), 0, middle(), middle(), 0, 0},
		{middle(), 1, patchOf("...", "...", "..."), patchOf("...", "...", "..."), 1, 1},
		{middle(), 2, middle(), middle(), 0, 0},
		// Weeds in beds stay under cut alone; other rows stay as they are.
		{mixed, 0, patchOf(".W.", "Www", "..W", "T#="), patchOf(".#.", "Www", "..W", "T#="), 1, 2},
		{mixed, 1, patchOf("wW.", "W..", "..W", "T#="), patchOf("wW.", "#..", "..W", "T#="), 2, 3},
		{mixed, 2, mixed, patchOf("wW.", "Www", "..#", "T#="), 0, 1},
		{mixed, 3, mixed, mixed, 0, 0},
		// One cell, one row, one column, and the greatest lawn.
		{patchOf("w"), 0, patchOf("."), patchOf("."), 1, 1},
		{patchOf("W"), 0, patchOf("W"), patchOf("#"), 0, 1},
		{patchOf("T"), 0, patchOf("T"), patchOf("T"), 0, 0},
		{patchOf("wWwWwWwWwW"), 0, patchOf(".W.W.W.W.W"), patchOf(".#.#.#.#.#"), 5, 10},
		{patchOf("w", "W", "w"), 0, patchOf(".", "W", "w"), patchOf(".", "W", "w"), 1, 1},
		{patchOf("w", "W", "w"), 1, patchOf("w", "W", "w"), patchOf("w", "#", "w"), 0, 1},
		{patchOf("w", "W", "w"), 2, patchOf("w", "W", "."), patchOf("w", "W", "."), 1, 1},
		{patch{l: fullLawn(10, 10, 0)}.with(xy(9, 9)).with(xy(0, 0)), 9, patch{l: fullLawn(10, 10, 0)}.with(xy(0, 0)), patch{l: fullLawn(10, 10, 0)}.with(xy(0, 0)), 1, 1},
	} {
		cut, freed, got := impl.CutRow(one.p.l, one.p.w, one.row)
		same(t, fmt.Sprint("cut ", one.p, one.row), []any{cut, freed, got}, []any{one.cut.w, one.byCut, int64(impl.OK)})
		hoed, freed, got := impl.HoeRow(one.p.l, one.p.w, one.row)
		same(t, fmt.Sprint("hoed ", one.p, one.row), []any{hoed, freed, got}, []any{one.hoed.w, one.byHoing, int64(impl.OK)})
	}
}

// All rows, and numbers that are none.
func TestClear(t *testing.T) {
	for p := range patches(300) {
		for row := range int64(p.l.High) {
			want, wantFreed := clearBy(p, row, false)
			if cut, freed, got := impl.CutRow(p.l, p.w, row); got != impl.OK || cut != want.w || freed != wantFreed {
				t.Fatalf("%v, cut %d: %v, %d (code %d), want %v, %d", p, row, patch{p.l, cut}, freed, got, want, wantFreed)
			}
			want, wantFreed = clearBy(p, row, true)
			if hoed, freed, got := impl.HoeRow(p.l, p.w, row); got != impl.OK || hoed != want.w || freed != wantFreed {
				t.Fatalf("%v, hoe %d: %v, %d (code %d), want %v, %d", p, row, patch{p.l, hoed}, freed, got, want, wantFreed)
			}
		}
	}
	for p := range patches(20) {
		for _, row := range append(noNumbers(int64(p.l.High)-1), 10, 128, -128) {
			cut, freed, got := impl.CutRow(p.l, p.w, row)
			same(t, fmt.Sprint("cut ", p, row), []any{cut, freed, got}, []any{impl.Weeds{}, int64(0), int64(impl.ErrRange)})
			hoed, freed, got := impl.HoeRow(p.l, p.w, row)
			same(t, fmt.Sprint("hoe ", p, row), []any{hoed, freed, got}, []any{impl.Weeds{}, int64(0), int64(impl.ErrRange)})
		}
	}
}

func TestSpotsTold(t *testing.T) {
	for _, one := range []struct {
		p    patch
		want []impl.Weeds
	}{
		{middle(), []impl.Weeds{{0, 2}}},
		{patchOf("."), nil},
		{patchOf("#"), nil},
		{patchOf("T="), nil},
		{patchOf("w"), []impl.Weeds{{1}}},
		{patchOf("W"), []impl.Weeds{{1}}},
		{patch{l: fullLawn(10, 10, 0)}, nil},
		{overgrown(fullLawn(10, 10, 0)), []impl.Weeds{overgrown(fullLawn(10, 10, 0)).w}},
		{overgrown(fullLawn(10, 10, 1)), []impl.Weeds{overgrown(fullLawn(10, 10, 0)).w}},
		// Spots that touch at a corner alone.
		{patchOf("w.", ".w"), []impl.Weeds{{1}, {0, 2}}},
		{patchOf(".w", "w."), []impl.Weeds{{2}, {0, 1}}},
		{patchOf("w.w", ".w.", "w.w"), []impl.Weeds{{1}, {4}, {0, 2}, {0, 0, 1}, {0, 0, 4}}},
		// Beds and grass are in one spot; trees and paths part it, and cells without weeds.
		{patchOf("wWw"), []impl.Weeds{{7}}},
		{patchOf("wTw"), []impl.Weeds{{1}, {4}}},
		{patchOf("W=W"), []impl.Weeds{{1}, {4}}},
		{patchOf("w.w"), []impl.Weeds{{1}, {4}}},
		{patchOf("w", "#", "w"), []impl.Weeds{{1}, {0, 0, 1}}},
		{patchOf("w", "w", "W"), []impl.Weeds{{1, 1, 1}}},
		// The first cell of a spot is the first one in its first row, however far to the west it goes below.
		{patchOf("..w", "w.w", "www"), []impl.Weeds{{4, 5, 7}}},
		{patchOf("...w", "w..w", "wwww", "....", "w..w"), []impl.Weeds{{8, 9, 15}, {0, 0, 0, 0, 1}, {0, 0, 0, 0, 8}}},
		{patchOf("w.w", "w.w", "w.."), []impl.Weeds{{1, 1, 1}, {4, 4}}},
		{patchOf(".w.", "..w", "ww."), []impl.Weeds{{2}, {0, 4}, {0, 0, 3}}},
		{patchOf("www", "w.w", "www"), []impl.Weeds{{7, 5, 7}}},
		{patchOf("wwwww", "w...w", "w.W.w", "w...w", "wwwww"), []impl.Weeds{{31, 17, 17, 17, 31}, {0, 0, 4}}},
		// Nothing is beside the ends of rows.
		{patchOf(".........w", "w........."), []impl.Weeds{{512}, {0, 1}}},
	} {
		spots, got := impl.SpotsOf(one.p.l, one.p.w)
		code(t, one.p.String(), got, impl.OK)
		same(t, one.p.String(), spots, one.want)
	}
}

func TestRunRoundsTold(t *testing.T) {
	many := slices.Repeat(roundsOf(0), 60)
	beds := patchOf("W.", ".#")
	for _, one := range []struct {
		p      patch
		need   int64
		rounds []impl.Round
		want   patch
		freed  int64
		code   int64
	}{
		{middle(), 1, nil, middle(), 0, impl.OK},
		{middle(), 1, []impl.Round{}, middle(), 0, impl.OK},
		{patchOf("T"), 4, nil, patchOf("T"), 0, impl.OK},
		// The weeds spread first, and then the row is cut.
		{middle(), 1, roundsOf(1), patchOf(".w.", "...", ".w."), 3, impl.OK},
		{middle(), 1, roundsOf(0), patchOf("...", "www", ".w."), 1, impl.OK},
		{middle(), 1, roundsOf(1, 10), patchOf("...", ".w.", "www"), 6, impl.OK},
		{middle(), 1, roundsOf(1, 1), patchOf("www", "...", "www"), 4, impl.OK},
		{middle(), 2, roundsOf(1), patchOf("...", "...", "..."), 1, impl.OK},
		{middle(), 2, roundsOf(0, 2), middle(), 0, impl.OK},
		{middle(), 2, roundsOf(1, 1, 1), patchOf("...", "...", "..."), 1, impl.OK},
		// Beds under cut and under hoe.
		{beds, 1, roundsOf(0), patchOf("W.", "w#"), 1, impl.OK},
		{beds, 1, roundsOf(10), patchOf("#.", "w#"), 2, impl.OK},
		{beds, 1, roundsOf(1), patchOf("Ww", ".#"), 1, impl.OK},
		{beds, 1, roundsOf(11), patchOf("Ww", ".#"), 1, impl.OK},
		{beds, 1, roundsOf(0, 1), patchOf("Ww", ".W"), 2, impl.OK},
		{beds, 1, roundsOf(0, 11), patchOf("Ww", ".#"), 3, impl.OK},
		{beds, 4, roundsOf(0, 0, 1), beds, 0, impl.OK},
		{beds, 4, roundsOf(0, 10, 0), patchOf("#.", ".#"), 1, impl.OK},
		// One cell, one row, one column.
		{patchOf("w"), 1, roundsOf(0), patchOf("."), 1, impl.OK},
		{patchOf("W"), 1, roundsOf(0, 0, 10, 10), patchOf("#"), 1, impl.OK},
		{patchOf("w.."), 1, roundsOf(0), patchOf("..."), 2, impl.OK},
		{patchOf("w", ".", "."), 1, roundsOf(0, 1, 2), patchOf("w", "w", "."), 3, impl.OK},
		// As many rounds as there may be, and one more; no row of the lawn is told first.
		{patchOf("W."), 1, many, patchOf("W."), 60, impl.OK},
		{patchOf("W."), 1, append(many[:60:60], roundsOf(0)...), patch{}, 0, impl.ErrLimit},
		{patchOf("W."), 1, append(many[:60:60], roundsOf(1)...), patch{}, 0, impl.ErrRange},
		{patchOf("W."), 1, append(roundsOf(11), many...), patch{}, 0, impl.ErrRange},
		{patchOf("W."), 1, append(many[:59:59], roundsOf(1)...), patch{}, 0, impl.ErrRange},
		{patchOf("W."), 0, append(many[:60:60], roundsOf(0)...), patch{}, 0, impl.ErrRange},
		{patchOf("W."), 5, nil, patch{}, 0, impl.ErrRange},
		{patchOf("W.", ".."), 1, roundsOf(1), patchOf("Ww", ".."), 1, impl.OK},
		{patchOf("W.", ".."), 1, roundsOf(2), patch{}, 0, impl.ErrRange},
		{patchOf("W.", ".."), 1, []impl.Round{{Row: -1}}, patch{}, 0, impl.ErrRange},
		{patchOf("W.", ".."), 1, []impl.Round{{Row: 0}, {Row: 127, Hoed: true}}, patch{}, 0, impl.ErrRange},
		{patchOf("W.", ".."), 1, []impl.Round{{Row: 0}, {Row: -128}}, patch{}, 0, impl.ErrRange},
		{patch{l: fullLawn(10, 10, 0)}, 1, roundsOf(9, 19), patch{l: fullLawn(10, 10, 0)}, 0, impl.OK},
		{patch{l: fullLawn(10, 10, 0)}, 1, []impl.Round{{Row: 10}}, patch{}, 0, impl.ErrRange},
	} {
		left, freed, got := impl.RunRounds(one.p.l, one.p.w, one.need, one.rounds)
		same(t, fmt.Sprint(one.p, one.need, one.rounds), []any{left, freed, got}, []any{one.want.w, one.freed, one.code})
	}
}

// randomRounds returns so many rounds with rows of a lawn, and with others now and then.
func randomRounds(random *rand.Rand, l impl.Lawn, count int) []impl.Round {
	var rounds []impl.Round
	for range count {
		rounds = append(rounds, impl.Round{Row: int8(random.Intn(int(l.High))), Hoed: random.Intn(2) == 0})
	}
	if count > 0 && random.Intn(5) == 0 {
		rounds[random.Intn(count)].Row = anyOf(random, []int8{-128, -1, l.High, l.High + 1, 10, 100, 127})
	}
	return rounds
}

// Rounds are what happens day by day.
func TestRunRounds(t *testing.T) {
	random := rand.New(rand.NewSource(53))
	codes := map[int64]int{}
	for p := range patches(200) {
		for need := int64(1); need <= 4; need++ {
			rounds := randomRounds(random, p.l, anyOf(random, []int{0, 1, 2, 3, 10, 59, 60, 61, 62, 100}))
			want, wantFreed, wantCode := roundsBy(p, need, rounds)
			left, freed, got := impl.RunRounds(p.l, p.w, need, rounds)
			if left != want.w || freed != wantFreed || got != wantCode {
				t.Fatalf("%v, need %d, %v: %v, %d (code %d), want %v, %d (code %d)", p, need, rounds, patch{p.l, left}, freed, got, want, wantFreed, wantCode)
			}
			codes[got]++
			if got != impl.OK {
				continue
			}
			now, all := p.w, int64(0)
			for _, r := range rounds {
				now, _ = impl.SpreadOnce(p.l, now, need)
				take := impl.CutRow
				if r.Hoed {
					take = impl.HoeRow
				}
				less, one, _ := take(p.l, now, int64(r.Row))
				now, all = less, all+one
			}
			same(t, "day by day", []any{left, freed}, []any{now, all})
		}
	}
	for _, wanted := range []int64{impl.OK, impl.ErrRange, impl.ErrLimit} {
		if codes[wanted] < 100 {
			t.Errorf("codes %v", codes)
		}
	}
}

func TestBestRowTold(t *testing.T) {
	full := overgrown(fullLawn(10, 10, 0))
	for _, one := range []struct {
		p                patch
		need, row, weeds int64
	}{
		{middle(), 1, 1, 0},
		{middle(), 2, 1, 0},
		// Nothing to be cut, or nothing that can be cut.
		{patchOf("."), 1, 0, 0},
		{patchOf("T", "="), 1, 0, 0},
		{patch{l: fullLawn(10, 10, 0)}, 1, 0, 0},
		{patchOf("W"), 1, 0, 1},
		{patchOf("#", "W"), 1, 0, 2},
		{overgrown(fullLawn(10, 10, 1)), 1, 0, 100},
		{patchOf("w"), 1, 0, 0},
		{patchOf("w.."), 1, 0, 0},
		{patchOf("W.w"), 1, 0, 2},
		// Rows that are equally good: the first one.
		{patchOf("w", ".", "w"), 1, 0, 2},
		{patchOf(".", "w", "w", "."), 1, 1, 3},
		{patchOf("w", "w"), 1, 0, 2},
		{patchOf("w", "w"), 2, 0, 1},
		{patchOf("#", "W", "w", "#", "w"), 3, 2, 2},
		{patchOf("www", "...", "w.w"), 2, 0, 3},
		// The row is cut ahead of spreading: that with the most weeds is not always best.
		{patchOf("www", "ww.", "www"), 1, 0, 8},
		{patchOf("www", "ww.", "www"), 2, 0, 6},
		{patchOf("www", "ww.", "www"), 3, 0, 5},
		{patchOf("www", "w.w", "www"), 4, 0, 5},
		{patchOf("ww", "w.", ".."), 2, 0, 1},
		{patchOf(".....", "ww.ww", ".....", "..w.."), 1, 1, 4},
		{patchOf("#####", "WW#WW", ".....", "..w.."), 2, 3, 5},
		// The last row.
		{patchOf("W", ".", ".", ".", ".", ".", ".", ".", ".", "w"), 1, 9, 2},
		{full, 1, 0, 100},
		{full, 2, 0, 90},
		{full, 4, 0, 90},
	} {
		row, weeds, got := impl.BestRow(one.p.l, one.p.w, one.need)
		same(t, fmt.Sprint(one.p, one.need), []int64{row, weeds, got}, []int64{one.row, one.weeds, impl.OK})
	}
}

func TestFewestWeedsTold(t *testing.T) {
	for _, one := range []struct {
		p          patch
		need, cuts int64
		rows       []int64
		weeds      int64
	}{
		{middle(), 1, 0, nil, 1},
		{middle(), 1, 1, []int64{1}, 2},
		{middle(), 2, 1, []int64{1}, 0},
		{middle(), 2, 2, []int64{0, 1}, 0},
		{middle(), 2, 4, []int64{0, 0, 0, 1}, 0},
		// Nothing to be cut, or nothing that can be cut: the first list.
		{patchOf(".", "."), 1, 3, []int64{0, 0, 0}, 0},
		{patchOf("T=", "=T"), 1, 4, []int64{0, 0, 0, 0}, 0},
		{patchOf("W"), 1, 2, []int64{0, 0}, 1},
		{patchOf("W#", "##"), 1, 2, []int64{0, 0}, 4},
		{patchOf("W#", "##"), 1, 0, nil, 1},
		// One cell, one row, one column.
		{patchOf("w"), 1, 0, nil, 1},
		{patchOf("w"), 1, 1, []int64{0}, 0},
		{patchOf("w"), 1, 4, []int64{0, 0, 0, 0}, 0},
		{patchOf("w.#"), 1, 1, []int64{0}, 0},
		{patchOf("w.#"), 1, 2, []int64{0, 0}, 0},
		{patchOf("w#."), 1, 1, []int64{0}, 1},
		{patchOf("w", "."), 1, 1, []int64{0}, 1},
		{patchOf("w", "."), 1, 2, []int64{0, 0}, 1},
		{patchOf("w", "."), 2, 2, []int64{0, 0}, 0},
		// Lists that are equally good.
		{patchOf("w", "T", "w"), 1, 1, []int64{0}, 1},
		{patchOf("w", "T", "w"), 1, 2, []int64{0, 2}, 0},
		{patchOf("w", "T", "w"), 1, 3, []int64{0, 0, 2}, 0},
		{patchOf("w", "T", "w", "T", "w", "T", "w"), 1, 4, []int64{0, 2, 4, 6}, 0},
		{patchOf("w", "T", "w", "T", "w", "T", "w"), 1, 3, []int64{0, 2, 4}, 1},
		{patchOf("Ww", "ww"), 1, 1, []int64{1}, 2},
		// The row that is best on the first day is not always the one to begin with.
		{patchOf("w", ".", "."), 1, 1, []int64{0}, 1},
		{patchOf("w", ".", "."), 1, 2, []int64{1, 0}, 1},
		{patchOf("www", "...", "..."), 1, 2, []int64{1, 0}, 3},
		{patchOf("w..", "..w", "w.."), 2, 2, []int64{0, 1}, 1},
		{patchOf("w", "w", "w", "w", "."), 2, 4, []int64{0, 1, 2, 3}, 0},
		{patchOf("wwwwwwwwww", "TTTTTTTTTT", "w........."), 1, 2, []int64{0, 2}, 0},
		{patchOf("wwwwwwwwww", "TTTTTTTTTT", "w........."), 1, 1, []int64{0}, 2},
		{overgrown(fullLawn(10, 10, 1)), 1, 0, nil, 100},
		{overgrown(fullLawn(10, 10, 1)), 1, 2, []int64{0, 0}, 100},
		{overgrown(fullLawn(10, 10, 1)), 1, 4, []int64{0, 0, 0, 0}, 100},
		{overgrown(fullLawn(10, 10, 0)), 4, 4, []int64{0, 1, 2, 3}, 60},
		{overgrown(fullLawn(10, 10, 0)), 1, 4, []int64{0, 0, 0, 0}, 90},
		{patch{l: fullLawn(10, 10, 0)}, 1, 4, []int64{0, 0, 0, 0}, 0},
	} {
		rows, weeds, got := impl.FewestWeeds(one.p.l, one.p.w, one.need, one.cuts)
		same(t, fmt.Sprint(one.p, one.need, one.cuts), rows, one.rows)
		same(t, fmt.Sprint(one.p, one.need, one.cuts), []int64{weeds, got}, []int64{one.weeds, impl.OK})
	}
}

func TestFewestCutsTold(t *testing.T) {
	four := patchOf("w", "T", "w", "T", "w", "T", "w")
	for _, one := range []struct {
		p           patch
		need, bound int64
		rows        []int64
		code        int64
	}{
		// Without any cut.
		{middle(), 1, 1, nil, impl.OK},
		{middle(), 1, 100, nil, impl.OK},
		{middle(), 1, 1<<63 - 1, nil, impl.OK},
		{patchOf("."), 1, 0, nil, impl.OK},
		{patchOf("T="), 4, 0, nil, impl.OK},
		{patch{l: fullLawn(10, 10, 1)}, 1, 0, nil, impl.OK},
		{overgrown(fullLawn(10, 10, 0)), 1, 100, nil, impl.OK},
		{middle(), 2, 0, []int64{1}, impl.OK},
		{middle(), 1, 0, nil, impl.ErrNotFound},
		// Beds alone.
		{patchOf("W"), 1, 1, nil, impl.OK},
		{patchOf("W"), 1, 0, nil, impl.ErrNotFound},
		{patchOf("Ww"), 1, 1, []int64{0}, impl.OK},
		{patchOf("Ww"), 1, 0, nil, impl.ErrNotFound},
		// One cell, one row, one column.
		{patchOf("w"), 1, 0, []int64{0}, impl.OK},
		{patchOf("w.w"), 1, 1, []int64{0}, impl.OK},
		{patchOf("w", "w"), 1, 1, []int64{0}, impl.OK},
		{patchOf("w", "w"), 1, 0, nil, impl.ErrNotFound},
		{patchOf("w", "w"), 2, 0, []int64{0, 1}, impl.OK},
		// The first list that is enough, not that which leaves the fewest.
		{patchOf("Ww", "ww"), 1, 3, []int64{0}, impl.OK},
		{patchOf("Ww", "ww"), 1, 2, []int64{1}, impl.OK},
		{patchOf("Ww", "ww"), 1, 4, nil, impl.OK},
		{patchOf("w...", "TTTT", "wwww"), 1, 4, []int64{0}, impl.OK},
		{patchOf("w...", "TTTT", "wwww"), 1, 2, []int64{2}, impl.OK},
		{patchOf("w...", "TTTT", "wwww"), 1, 1, []int64{0, 2}, impl.OK},
		{patchOf("w...", "TTTT", "wwww"), 1, 5, nil, impl.OK},
		// One more cut for each one fewer, up to MaxCuts.
		{four, 1, 4, nil, impl.OK},
		{four, 1, 3, []int64{0}, impl.OK},
		{four, 1, 2, []int64{0, 2}, impl.OK},
		{four, 1, 1, []int64{0, 2, 4}, impl.OK},
		{four, 1, 0, []int64{0, 2, 4, 6}, impl.OK},
		{patchOf("w", "T", "w", "T", "w", "T", "w", "T", "w"), 1, 1, []int64{0, 2, 4, 6}, impl.OK},
		{patchOf("w", "T", "w", "T", "w", "T", "w", "T", "w"), 1, 0, nil, impl.ErrNotFound},
		{overgrown(fullLawn(10, 10, 0)), 4, 60, []int64{0, 1, 2, 3}, impl.OK},
		{overgrown(fullLawn(10, 10, 0)), 4, 59, nil, impl.ErrNotFound},
		{overgrown(fullLawn(10, 10, 0)), 1, 90, []int64{0}, impl.OK},
		{overgrown(fullLawn(10, 10, 0)), 1, 89, nil, impl.ErrNotFound},
		{overgrown(fullLawn(10, 10, 0)), 1, 0, nil, impl.ErrNotFound},
		// Below 0, also if there are no weeds.
		{middle(), 1, -1, nil, impl.ErrRange},
		{patchOf("."), 1, -1, nil, impl.ErrRange},
		{patchOf("."), 1, -1 << 63, nil, impl.ErrRange},
	} {
		rows, got := impl.FewestCuts(one.p.l, one.p.w, one.need, one.bound)
		same(t, fmt.Sprint(one.p, one.need, one.bound), rows, one.rows)
		code(t, fmt.Sprint(one.p, one.need, one.bound), got, one.code)
	}
}

func TestMayBeFromTold(t *testing.T) {
	beds := patchOf("W.#", "..T")
	for _, one := range []struct {
		p     patch
		need  int64
		after impl.Weeds
		want  bool
	}{
		// A day later, without a row that is cut.
		{middle(), 1, impl.Weeds{2, 7, 2}, true},
		{middle(), 2, impl.Weeds{0, 2}, true},
		{middle(), 4, impl.Weeds{0, 2}, true},
		{patchOf("."), 1, impl.Weeds{}, true},
		{patchOf("T="), 1, impl.Weeds{}, true},
		{overgrown(fullLawn(10, 10, 0)), 1, overgrown(fullLawn(10, 10, 0)).w, true},
		// One row is cut, each one.
		{middle(), 1, impl.Weeds{0, 7, 2}, true},
		{middle(), 1, impl.Weeds{2, 0, 2}, true},
		{middle(), 1, impl.Weeds{2, 7, 0}, true},
		{middle(), 2, impl.Weeds{}, true},
		{patchOf("w"), 1, impl.Weeds{}, true},
		{patchOf("w.."), 1, impl.Weeds{}, true},
		// One row is partly cut.
		{middle(), 1, impl.Weeds{2, 5, 2}, true},
		{middle(), 1, impl.Weeds{2, 1, 2}, true},
		{middle(), 1, impl.Weeds{2, 6, 2}, true},
		{patchOf("w.."), 1, impl.Weeds{1}, true},
		{patchOf("w.."), 1, impl.Weeds{2}, true},
		// Two rows are, or all.
		{middle(), 1, impl.Weeds{0, 0, 2}, false},
		{middle(), 1, impl.Weeds{0, 7, 0}, false},
		{middle(), 1, impl.Weeds{2, 5, 0}, false},
		{middle(), 1, impl.Weeds{0, 3, 2}, false},
		{middle(), 1, impl.Weeds{0, 2}, false},
		{middle(), 1, impl.Weeds{}, false},
		{patchOf("w", "w"), 1, impl.Weeds{}, false},
		// Weeds that cannot have come, also in a row that is cut.
		{middle(), 1, impl.Weeds{3, 7, 2}, false},
		{middle(), 1, impl.Weeds{1, 7, 2}, false},
		{middle(), 1, impl.Weeds{4, 7, 2}, false},
		{middle(), 1, impl.Weeds{2, 7, 6}, false},
		{middle(), 1, impl.Weeds{7, 7, 7}, false},
		{middle(), 2, impl.Weeds{2, 7, 2}, false},
		{middle(), 2, impl.Weeds{0, 3}, false},
		{middle(), 2, impl.Weeds{0, 1}, false},
		{patchOf("."), 1, impl.Weeds{1}, false},
		{patchOf("w.."), 1, impl.Weeds{7}, false},
		{patchOf("w.."), 1, impl.Weeds{4}, false},
		// Beds under cut and under hoe, and partly.
		{beds, 1, impl.Weeds{3, 1}, true},
		{beds, 1, impl.Weeds{1, 1}, true},
		{beds, 1, impl.Weeds{0, 1}, true},
		{beds, 1, impl.Weeds{2, 1}, true},
		{beds, 1, impl.Weeds{3}, true},
		{beds, 1, impl.Weeds{1}, false},
		{beds, 1, impl.Weeds{}, false},
		{beds, 1, impl.Weeds{7, 1}, false},
		{beds, 2, impl.Weeds{1}, true},
		{beds, 2, impl.Weeds{}, true},
		// The last row.
		{overgrown(fullLawn(10, 10, 0)), 4, clearOf(overgrown(fullLawn(10, 10, 0)), 9), true},
		{overgrown(fullLawn(10, 10, 0)), 4, clearOf(overgrown(fullLawn(10, 10, 0)), 8, 9), false},
	} {
		may, got := impl.MayBeFrom(one.p.l, one.p.w, one.after, one.need)
		same(t, fmt.Sprint(one.p, one.need, one.after), []any{may, got}, []any{one.want, int64(impl.OK)})
	}
}

// clearOf tells the weeds of a patch without those of some rows.
func clearOf(p patch, rows ...int64) impl.Weeds {
	for _, row := range rows {
		p, _ = clearBy(p, row, true)
	}
	return p.w
}

// All weeds that may be on small lawns, before and after a day.
func TestMayBeFromAll(t *testing.T) {
	counts := map[bool]int{}
	for _, size := range [][2]int{{1, 1}, {3, 1}, {1, 3}, {2, 2}} {
		for p := range everyPatch(size[0], size[1], ".w#WT") {
			for need := int64(1); need <= 4; need++ {
				afters := aftersBy(p, need)
				for after := range everyPatch(size[0], size[1], ".w") {
					if !isSoundPatch(patch{p.l, after.w}) {
						continue
					}
					may, got := impl.MayBeFrom(p.l, p.w, after.w, need)
					if got != impl.OK || may != afters[after.w] {
						t.Fatalf("%v, need %d, %v: %v (code %d)", p, need, after, may, got)
					}
					counts[may]++
				}
			}
		}
	}
	if counts[true] < 1000 || counts[false] < 1000 {
		t.Errorf("counts %v", counts)
	}
}

// On lawns of any size: what rounds leave may be, with some of it gone, and with more.
func TestMayBeFrom(t *testing.T) {
	random := rand.New(rand.NewSource(54))
	counts := map[bool]int{}
	for p := range patches(150) {
		for need := int64(1); need <= 4; need++ {
			afters := aftersBy(p, need)
			rows := []int64{int64(random.Intn(int(p.l.High))), int64(random.Intn(int(p.l.High)))}
			cut, _ := clearBy(spreadBy(p, need), rows[0], false)
			hoed, _ := clearBy(spreadBy(p, need), rows[0], true)
			both, _ := clearBy(cut, rows[1], true)
			list := []patch{p, spreadBy(p, need), cut, hoed, both, randomPatch(random, p.l), overgrown(p.l), {l: p.l}}
			for _, at := range someOf(random, cellsOf(p.l), 3) {
				list = append(list, spreadBy(p, need).without(at), cut.without(at))
				if slices.Contains(mayGrow(p.l), at) {
					list = append(list, cut.with(at), hoed.with(at))
				}
			}
			for _, after := range list {
				may, got := impl.MayBeFrom(p.l, p.w, after.w, need)
				if got != impl.OK || may != afters[after.w] {
					t.Fatalf("%v, need %d, %v: %v (code %d)", p, need, after, may, got)
				}
				counts[may]++
			}
		}
	}
	if counts[true] < 1000 || counts[false] < 1000 {
		t.Errorf("counts %v", counts)
	}
}

func TestSeedFor(t *testing.T) {
	for _, one := range []struct {
		p          patch
		each, want int64
	}{
		{middle(), 4, 4}, {middle(), 0, 0}, {middle(), 1, 1}, {middle(), 1000, 1000},
		{patchOf("wW", "#w"), 7, 14}, {patchOf("W"), 1000, 0}, {patchOf("."), 1000, 0}, {patchOf("T="), 5, 0}, {patchOf("w.w"), 3, 6},
		{overgrown(fullLawn(10, 10, 0)), 1000, 100000}, {overgrown(fullLawn(10, 10, 0)), 999, 99900}, {overgrown(fullLawn(10, 10, 1)), 1000, 0}, {patch{l: fullLawn(10, 10, 0)}.with(xy(9, 9)), 8, 8},
	} {
		seed, got := impl.SeedFor(one.p.l, one.p.w, one.each)
		same(t, fmt.Sprint(one.p, one.each), []int64{seed, got}, []int64{one.want, impl.OK})
	}
	for p := range patches(200) {
		inGrass := slices.DeleteFunc(p.weedy(), func(at impl.Cell) bool { return !hasGrass(p.l, at) })
		for _, each := range []int64{0, 1, 2, 999, 1000} {
			if seed, got := impl.SeedFor(p.l, p.w, each); got != impl.OK || seed != each*int64(len(inGrass)) {
				t.Fatalf("%v, %d each: %d (code %d)", p, each, seed, got)
			}
		}
	}
}

func TestMirrorWeeds(t *testing.T) {
	for _, one := range []struct {
		p    patch
		want impl.Weeds
	}{
		{middle(), impl.Weeds{0, 2}},
		{patchOf("w"), impl.Weeds{1}},
		{patchOf("T"), impl.Weeds{}},
		{patchOf("w.."), impl.Weeds{4}},
		{patchOf("ww.", "W#.", "..w"), impl.Weeds{6, 4, 1}},
		{patchOf("w", ".", "W"), impl.Weeds{1, 0, 1}},
		// Weeds of the mirrored lawn, which need not be valid for the lawn as it is.
		{patchOf("wT"), impl.Weeds{2}},
		{patchOf("==W"), impl.Weeds{1}},
		{patchOf("w.........", ".........w"), impl.Weeds{512, 1}},
	} {
		mirrored, got := impl.MirrorWeeds(one.p.l, one.p.w)
		same(t, one.p.String(), []any{mirrored, got}, []any{one.want, int64(impl.OK)})
	}
	for p := range patches(300) {
		want := mirroredPatch(p)
		mirrored, got := impl.MirrorWeeds(p.l, p.w)
		if mirrored != want.w || got != impl.OK {
			t.Fatalf("%v: %v (code %d), want %v", p, patch{want.l, mirrored}, got, want)
		}
		lawn, _ := impl.MirrorLawn(p.l)
		same(t, "lawn", lawn, want.l)
		back, got := impl.MirrorWeeds(lawn, mirrored)
		same(t, p.String(), []any{back, got}, []any{p.w, int64(impl.OK)})
		// Mirrored weeds spread as others do.
		later, _ := impl.SpreadOnce(p.l, p.w, 1)
		laterMirrored, _ := impl.SpreadOnce(lawn, mirrored, 1)
		same(t, p.String(), laterMirrored, mirroredPatch(patch{p.l, later}).w)
	}
}

func TestWeedsTextTold(t *testing.T) {
	for text, p := range map[string]patch{
		"...\n.w.\n...\n":          middle(),
		".\n":                      patchOf("T"),
		"w\n":                      patchOf("W"),
		"ww..\n":                   patchOf("wW.#"),
		"..w\n":                    patchOf("T=w"),
		"w\n.\nw\n":                patchOf("w", "=", "W"),
		"w.........\n.........w\n": patchOf("w.........", ".........w"),
		"..\n..\n":                 patchOf("#T", "=."),
	} {
		same(t, text, impl.WeedsText(p.l, p.w), text)
		read, got := impl.ReadWeeds(p.l, text)
		same(t, text, []any{read, got}, []any{p.w, int64(impl.OK)})
	}
}

func TestWeedsText(t *testing.T) {
	for p := range patches(300) {
		text := weedsTextBy(p)
		same(t, "text", impl.WeedsText(p.l, p.w), text)
		read, got := impl.ReadWeeds(p.l, text)
		if read != p.w || got != impl.OK {
			t.Fatalf("%q: %v (code %d)", text, read, got)
		}
		// A text that is not just this one is none.
		for _, other := range []string{text + "\n", "\n" + text, text[:len(text)-1], text + ".", text + "w", text + text, text[1:], "." + text, " " + text, text[:len(text)-1] + " \n", text[:len(text)-1] + "w\n", strings.ReplaceAll(text, "\n", "\r\n"), strings.ToUpper(text) + " "} {
			if reread, got := impl.ReadWeeds(p.l, other); got != impl.ErrSyntax || reread != (impl.Weeds{}) {
				t.Fatalf("%q is no text of %q: %v (code %d)", other, impl.LawnText(p.l), reread, got)
			}
		}
	}
	for p := range patches(8) {
		for _, w := range badWeeds(p) {
			same(t, "not valid", impl.WeedsText(p.l, w), "")
		}
	}
	for name, l := range badLawns() {
		same(t, name, impl.WeedsText(l, impl.Weeds{}), "")
		same(t, name, impl.WeedsText(l, impl.Weeds{1}), "")
	}
}

func TestReadWeedsSyntax(t *testing.T) {
	for _, text := range noWeedsTexts() {
		read, got := impl.ReadWeeds(hedge(), text)
		if got != impl.ErrSyntax || read != (impl.Weeds{}) {
			t.Errorf("%.60q: %v (code %d)", text, read, got)
		}
	}
	for name, l := range badLawns() {
		for _, text := range []string{"", "..\n..\n", "w\n", "x", "...\n...\n...\n"} {
			if read, got := impl.ReadWeeds(l, text); got != impl.ErrInvalid || read != (impl.Weeds{}) {
				t.Fatalf("%s, %.60q: %v (code %d)", name, text, read, got)
			}
		}
	}
	// What is the text of weeds of one lawn is not that of a lawn with another size, or with less ground.
	text := "w.\n.w\n"
	for _, l := range []impl.Lawn{lawnOf("."), lawnOf(".."), lawnOf(".", "."), lawnOf("..", "..", ".."), lawnOf("...", "..."), lawnOf("T.", ".."), lawnOf("..", ".="), lawnOf("=.", ".T"), fullLawn(10, 10, 0)} {
		_, got := impl.ReadWeeds(l, text)
		code(t, impl.LawnText(l), got, impl.ErrSyntax)
	}
	for _, l := range []impl.Lawn{lawnOf("..", ".."), lawnOf("##", "##"), lawnOf(".T", "=#")} {
		read, got := impl.ReadWeeds(l, text)
		same(t, impl.LawnText(l), []any{read, got}, []any{impl.Weeds{1, 2}, int64(impl.OK)})
	}
}

// All texts of up to six of these bytes, on lawns with one cell to four.
func TestReadWeedsEveryText(t *testing.T) {
	const bytes = ".w\n W"
	for _, l := range []impl.Lawn{lawnOf("."), lawnOf("#"), lawnOf("T"), lawnOf(".="), lawnOf(".", "#"), lawnOf("T", "."), lawnOf(".#."), lawnOf(".#", ".="), lawnOf(".", "#", "=")} {
		want := map[string]impl.Weeds{}
		for p := range everyPatch(int(l.Wide), int(l.High), ".w") {
			if isSoundPatch(patch{l, p.w}) {
				want[weedsTextBy(p)] = p.w
			}
		}
		found := 0
		var add func(text string)
		add = func(text string) {
			w, is := want[text]
			wantCode := int64(impl.ErrSyntax)
			if is {
				wantCode = impl.OK
				found++
			}
			if read, got := impl.ReadWeeds(l, text); read != w || got != wantCode {
				t.Fatalf("%q on %q: %v (code %d), want %v (code %d)", text, impl.LawnText(l), read, got, w, wantCode)
			}
			if len(text) == 6 {
				return
			}
			for i := range len(bytes) {
				add(text + bytes[i:i+1])
			}
		}
		add("")
		if found != len(want) {
			t.Errorf("%d of %d texts of %q", found, len(want), impl.LawnText(l))
		}
	}
}

func TestRoundsTextTold(t *testing.T) {
	for text, rounds := range map[string][]impl.Round{
		"":                               nil,
		"c0":                             roundsOf(0),
		"h0":                             roundsOf(10),
		"c9":                             roundsOf(9),
		"h9":                             roundsOf(19),
		"c1 h0":                          roundsOf(1, 10),
		"h0 c1":                          roundsOf(10, 1),
		"c5 c5 c5":                       roundsOf(5, 5, 5),
		"c0 c1 c2 c3 c4 c5 c6 c7 c8 c9":  roundsOf(0, 1, 2, 3, 4, 5, 6, 7, 8, 9),
		"h0 h1 h2 h3 h4 h5 h6 h7 h8 h9":  roundsOf(10, 11, 12, 13, 14, 15, 16, 17, 18, 19),
		strings.Repeat("c3 ", 59) + "h7": append(slices.Repeat(roundsOf(3), 59), roundsOf(17)...),
	} {
		same(t, text, impl.RoundsText(rounds), text)
		read, got := impl.ReadRounds(text)
		code(t, text, got, impl.OK)
		same(t, text, read, rounds)
	}
	// Rows that are none, and too many rounds.
	for row := -128; row < 128; row++ {
		for _, hoed := range []bool{false, true} {
			one := impl.Round{Row: int8(row), Hoed: hoed}
			for _, rounds := range [][]impl.Round{{one}, {one, {Row: 1}}, {{Row: 1}, one}, append(slices.Repeat(roundsOf(3), 59), one)} {
				want := ""
				if row >= 0 && row <= 9 {
					want = roundsTextBy(rounds)
				}
				same(t, fmt.Sprint(rounds), impl.RoundsText(rounds), want)
			}
		}
	}
	for _, many := range []int{61, 62, 100, 1000000} {
		for _, one := range [][]impl.Round{roundsOf(0), roundsOf(19), {{Row: 10}}} {
			same(t, fmt.Sprint(many), impl.RoundsText(slices.Repeat(one, many)), "")
		}
	}
}

func TestRoundsText(t *testing.T) {
	random := rand.New(rand.NewSource(55))
	for count := range 61 {
		for range 5 {
			var rounds []impl.Round
			for range count {
				rounds = append(rounds, impl.Round{Row: int8(random.Intn(10)), Hoed: random.Intn(2) == 0})
			}
			text := roundsTextBy(rounds)
			same(t, text, impl.RoundsText(rounds), text)
			read, got := impl.ReadRounds(text)
			code(t, text, got, impl.OK)
			same(t, text, read, rounds)
		}
	}
}

func TestReadRoundsSyntax(t *testing.T) {
	for _, text := range noRoundsTexts() {
		read, got := impl.ReadRounds(text)
		if got != impl.ErrSyntax || len(read) > 0 {
			t.Errorf("%.60q: %v (code %d)", text, read, got)
		}
	}
}

// All texts of up to six of these bytes.
func TestReadRoundsEveryText(t *testing.T) {
	const bytes = "ch019 +"
	want := map[string][]impl.Round{"": nil}
	rows := []int8{0, 1, 9, 10, 11, 19}
	for _, first := range rows {
		want[roundsTextBy(roundsOf(first))] = roundsOf(first)
		for _, second := range rows {
			want[roundsTextBy(roundsOf(first, second))] = roundsOf(first, second)
		}
	}
	found := 0
	var add func(text string)
	add = func(text string) {
		rounds, is := want[text]
		wantCode := int64(impl.ErrSyntax)
		if is {
			wantCode = impl.OK
			found++
		}
		if read, got := impl.ReadRounds(text); !slices.Equal(read, rounds) || got != wantCode {
			t.Fatalf("%q: %v (code %d), want %v (code %d)", text, read, got, rounds, wantCode)
		}
		if len(text) == 6 {
			return
		}
		for i := range len(bytes) {
			add(text + bytes[i:i+1])
		}
	}
	add("")
	same(t, "texts", found, len(want))
}

// The document's example of chapter 7.
func TestExample7(t *testing.T) {
	p := middle()
	once, _ := impl.SpreadOnce(p.l, p.w, 1)
	five, _ := impl.CountWeeds(p.l, once)
	still, _ := impl.SpreadOnce(p.l, p.w, 2)
	one, _ := impl.CountWeeds(p.l, still)
	same(t, "a day later", []int64{five, one}, []int64{5, 1})
	row, none, _ := impl.BestRow(p.l, p.w, 1)
	same(t, "best row", []int64{row, none}, []int64{1, 0})
	rows, two, _ := impl.FewestWeeds(p.l, p.w, 1, 1)
	same(t, "one cut", []any{rows, two}, []any{[]int64{1}, int64(2)})
	seed, _ := impl.SeedFor(p.l, p.w, 4)
	same(t, "seed", seed, int64(4))
}
