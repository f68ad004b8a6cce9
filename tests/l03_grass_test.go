package tests

import (
	"fmt"
	"math/rand"
	"slices"
	"strings"
	"testing"

	"loop.example/g01405/impl"
)

func TestValidWeather(t *testing.T) {
	for rain := -128; rain <= 127; rain++ {
		for warm := -128; warm <= 127; warm++ {
			want := rain >= 0 && rain <= 50 && warm >= 0 && warm <= 40
			if got := impl.ValidWeather(weatherOf(int8(rain), int8(warm))); got != want {
				t.Fatalf("rain %d, warmth %d: %v", rain, warm, got)
			}
		}
	}
	for days := range 100 {
		same(t, fmt.Sprint(days), impl.ValidWeather(make([]impl.Weather, days)), days <= impl.MaxWeather)
	}
	for list := range manyWeathers(100) {
		same(t, "many", impl.ValidWeather(list), true)
	}
	for name, list := range badWeathers() {
		same(t, name, impl.ValidWeather(list), false)
	}
	same(t, "none", []bool{impl.ValidWeather(nil), impl.ValidWeather([]impl.Weather{})}, []bool{true, true})
}

func TestSameWeather(t *testing.T) {
	list := weatherOf(0, 1, 2, 3, -5, 99)
	for i := range list {
		other := slices.Clone(list)
		same(t, "same", impl.SameWeather(list, other), true)
		other[i].Rain++
		same(t, "rain", impl.SameWeather(list, other), false)
		other[i].Rain--
		other[i].Warm--
		same(t, "warmth", impl.SameWeather(list, other), false)
		same(t, "shorter", impl.SameWeather(list, list[:i]), false)
		same(t, "longer", impl.SameWeather(list[:i], list), false)
	}
	same(t, "empty and nil", []bool{impl.SameWeather(nil, []impl.Weather{}), impl.SameWeather([]impl.Weather{}, nil), impl.SameWeather(nil, nil)}, []bool{true, true, true})
	same(t, "one day of nothing", impl.SameWeather(nil, weatherOf(0, 0)), false)
	for name, list := range badWeathers() {
		same(t, name, impl.SameWeather(list, slices.Clone(list)), true)
		same(t, name, impl.SameWeather(list, growing()), false)
	}
	same(t, "exchanged", impl.SameWeather(weatherOf(1, 2, 3, 4), weatherOf(3, 4, 1, 2)), false)
	same(t, "rain and warmth exchanged", impl.SameWeather(weatherOf(1, 2), weatherOf(2, 1)), false)
}

func TestGrowthOf(t *testing.T) {
	for rain := -128; rain <= 127; rain++ {
		for warm := -128; warm <= 127; warm++ {
			w := impl.Weather{Rain: int8(rain), Warm: int8(warm)}
			want, wantCode := growthOn(w), int64(impl.OK)
			if rain < 0 || rain > 50 || warm < 0 || warm > 40 {
				want, wantCode = 0, impl.ErrInvalid
			}
			if growth, got := impl.GrowthOf(w); growth != want || got != wantCode {
				t.Fatalf("%v: got %d (code %d), want %d (code %d)", w, growth, got, want, wantCode)
			}
		}
	}
	for _, one := range []struct {
		rain, warm int8
		want       int64
	}{{0, 0, 0}, {50, 9, 0}, {0, 10, 1}, {9, 19, 1}, {10, 19, 2}, {19, 20, 4}, {15, 27, 4}, {49, 40, 20}, {50, 39, 18}, {50, 40, 24}} {
		growth, got := impl.GrowthOf(impl.Weather{Rain: one.rain, Warm: one.warm})
		code(t, "told", got, impl.OK)
		same(t, fmt.Sprint(one), growth, one.want)
	}
}

func TestGrowthAll(t *testing.T) {
	for list := range manyWeathers(200) {
		var want []int64
		for _, w := range list {
			want = append(want, growthOn(w))
		}
		growths, got := impl.GrowthAll(list)
		code(t, "all", got, impl.OK)
		same(t, "all", growths, want)
	}
	growths, _ := impl.GrowthAll(weatherOf(0, 0, 50, 40, 9, 10, 10, 9))
	same(t, "told", growths, []int64{0, 24, 1, 0})
}

// Heights and clippings, of all plans for few days, and of some for many.
func TestHeightsAndClippings(t *testing.T) {
	check := func(one lawnDays, plan []int64) {
		t.Helper()
		wantHeights, wantClips := heightsAndClips(one.start, one.cut, one.list, plan)
		heights, got := impl.HeightsOf(one.start, one.cut, one.list, plan)
		code(t, "heights", got, impl.OK)
		clips, gotClips := impl.ClippingsOf(one.start, one.cut, one.list, plan)
		code(t, "clippings", gotClips, impl.OK)
		if !slices.Equal(heights, wantHeights) || !slices.Equal(clips, wantClips) {
			t.Fatalf("%v, plan %v: heights %v, clippings %v; want %v, %v", one, plan, heights, clips, wantHeights, wantClips)
		}
	}
	for one := range shortSeasons(60, 6) {
		for _, plan := range everyPlan(len(one.list)) {
			check(one, plan)
		}
	}
	random := rand.New(rand.NewSource(6))
	for list := range manyWeathers(200) {
		check(lawnDays{int64(random.Intn(201)), int64(random.Intn(201)), 0, list}, randomPlan(random, len(list)))
	}
}

func TestHeightsTold(t *testing.T) {
	for _, one := range []struct {
		start, cut int64
		list       []impl.Weather
		plan       []int64
		heights    []int64
		clips      []int64
	}{
		{0, 0, nil, nil, nil, nil},
		{200, 0, nil, []int64{}, nil, nil},
		{10, 5, growing(), nil, []int64{14, 18, 22}, nil},
		{10, 5, growing(), []int64{0}, []int64{9, 13, 17}, []int64{5}},
		{10, 5, growing(), []int64{1}, []int64{14, 9, 13}, []int64{9}},
		{10, 5, growing(), []int64{2}, []int64{14, 18, 9}, []int64{13}},
		{10, 5, growing(), []int64{0, 1, 2}, []int64{9, 9, 9}, []int64{5, 4, 4}},
		// Mowing cuts nothing from grass that is lower than the cut, or as high.
		{1, 5, growing(), []int64{0, 1, 2}, []int64{5, 9, 9}, []int64{0, 0, 4}},
		{5, 5, growing(), []int64{0}, []int64{9, 13, 17}, []int64{0}},
		{6, 5, growing(), []int64{0}, []int64{9, 13, 17}, []int64{1}},
		{0, 200, growing(), []int64{0, 2}, []int64{4, 8, 12}, []int64{0, 0}},
		{200, 0, growing(), []int64{0, 2}, []int64{4, 8, 4}, []int64{200, 8}},
		{200, 200, growing(), []int64{1}, []int64{204, 204, 208}, []int64{4}},
		{7, 0, weatherOf(0, 0), []int64{0}, []int64{0}, []int64{7}},
	} {
		heights, got := impl.HeightsOf(one.start, one.cut, one.list, one.plan)
		code(t, "heights", got, impl.OK)
		same(t, fmt.Sprintf("heights %v", one), heights, one.heights)
		clips, got := impl.ClippingsOf(one.start, one.cut, one.list, one.plan)
		code(t, "clippings", got, impl.OK)
		same(t, fmt.Sprintf("clippings %v", one), clips, one.clips)
	}
	heights, _ := impl.HeightsOf(impl.MaxLong, impl.MaxLong, sameDays(30, 50, 40), nil)
	same(t, "highest", heights[29], int64(200+30*24))
	clips, _ := impl.ClippingsOf(impl.MaxLong, 0, sameDays(30, 50, 40), []int64{29})
	same(t, "longest", clips, []int64{200 + 29*24})
}

func TestFirstTooLong(t *testing.T) {
	for one := range shortSeasons(200, 5) {
		for _, plan := range everyPlan(len(one.list)) {
			heights, _ := heightsAndClips(one.start, one.cut, one.list, plan)
			want, wantCode := slices.IndexFunc(heights, func(high int64) bool { return high > one.most }), int64(impl.OK)
			if want < 0 {
				want, wantCode = 0, impl.ErrNotFound
			}
			day, got := impl.FirstTooLong(one.start, one.cut, one.most, one.list, plan)
			if day != int64(want) || got != wantCode {
				t.Fatalf("%v, plan %v: got %d (code %d), want %d (code %d)", one, plan, day, got, want, wantCode)
			}
		}
	}
	for _, one := range []struct {
		start, most int64
		plan        []int64
		want, code  int64
	}{
		{10, 14, nil, 1, impl.OK},
		{10, 13, nil, 0, impl.OK},
		{10, 18, nil, 2, impl.OK},
		{10, 21, nil, 2, impl.OK},
		{10, 22, nil, 0, impl.ErrNotFound},
		{10, 14, []int64{1}, 0, impl.ErrNotFound},
		{10, 13, []int64{0}, 2, impl.OK},
		{10, 0, []int64{0, 1, 2}, 0, impl.OK},
		{200, 200, nil, 0, impl.OK},
		// How high it is at first does not count.
		{200, 9, []int64{0, 1, 2}, 0, impl.ErrNotFound},
	} {
		day, got := impl.FirstTooLong(one.start, 5, one.most, growing(), one.plan)
		same(t, fmt.Sprint(one), []int64{day, got}, []int64{one.want, one.code})
	}
	_, got := impl.FirstTooLong(200, 0, 0, nil, nil)
	code(t, "no days", got, impl.ErrNotFound)
	day, got := impl.FirstTooLong(impl.MaxLong, 0, impl.MaxLong, append(sameDays(29, 50, 9), sameDays(1, 0, 10)...), nil)
	same(t, "last day", []int64{day, got}, []int64{29, impl.OK})
}

func TestBoxesFor(t *testing.T) {
	for clip := int64(0); clip <= impl.MaxLong; clip++ {
		for _, cells := range []int64{0, 1, 2, 3, 10, 50, 99, 100} {
			for _, box := range []int64{1, 2, 3, 7, 40, 99, 100, 101, 200, 9999, 10000} {
				boxes, got := impl.BoxesFor([]int64{clip, 0, clip}, cells, box)
				want := int64(0)
				for filled := int64(0); filled < clip*cells; filled += box {
					want++
				}
				if got != impl.OK || !slices.Equal(boxes, []int64{want, 0, want}) {
					t.Fatalf("%d from %d cells in boxes of %d: got %v (code %d), want %d", clip, cells, box, boxes, got, want)
				}
			}
		}
	}
	for _, one := range []struct {
		clips      []int64
		cells, box int64
		want       []int64
	}{
		{nil, 0, 1, nil},
		{[]int64{}, 100, 10000, nil},
		{[]int64{9, 0}, 10, 40, []int64{3, 0}},
		// Boxes that are filled exactly, by one less, and by one more.
		{[]int64{39, 40, 41, 80, 81}, 1, 40, []int64{1, 1, 2, 2, 3}},
		{[]int64{200, 100}, 100, 10000, []int64{2, 1}},
		{[]int64{200, 101, 1}, 100, 1, []int64{20000, 10100, 100}},
		{[]int64{200, 101, 1}, 0, 1, []int64{0, 0, 0}},
		{[]int64{1}, 1, 10000, []int64{1}},
	} {
		boxes, got := impl.BoxesFor(one.clips, one.cells, one.box)
		code(t, "boxes", got, impl.OK)
		same(t, fmt.Sprint(one), boxes, one.want)
	}
}

func TestDriestSpell(t *testing.T) {
	for list := range manyWeathers(400) {
		first, long := int64(0), int64(0)
		for from := range list {
			for to := from + 1; to <= len(list); to++ {
				dry := !slices.ContainsFunc(list[from:to], func(w impl.Weather) bool { return w.Rain != 0 })
				if dry && int64(to-from) > long {
					first, long = int64(from), int64(to-from)
				}
			}
		}
		wantCode := int64(impl.OK)
		if long == 0 {
			wantCode = impl.ErrNotFound
		}
		gotFirst, gotLong, got := impl.DriestSpell(list)
		same(t, fmt.Sprint(list), []int64{gotFirst, gotLong, got}, []int64{first, long, wantCode})
	}
	for _, one := range []struct {
		rains []int8
		want  []int64
	}{
		{nil, []int64{0, 0, impl.ErrNotFound}},
		{[]int8{1}, []int64{0, 0, impl.ErrNotFound}},
		{[]int8{50, 1, 3}, []int64{0, 0, impl.ErrNotFound}},
		{[]int8{0}, []int64{0, 1, impl.OK}},
		{[]int8{1, 0}, []int64{1, 1, impl.OK}},
		{[]int8{0, 0, 1, 0, 0, 1, 0, 0}, []int64{0, 2, impl.OK}},
		{[]int8{0, 1, 0, 0, 9, 0, 0, 0}, []int64{5, 3, impl.OK}},
		{[]int8{0, 1, 0, 0, 0, 9, 0, 0}, []int64{2, 3, impl.OK}},
		{make([]int8, 30), []int64{0, 30, impl.OK}},
		{append(make([]int8, 15), append([]int8{1}, make([]int8, 14)...)...), []int64{0, 15, impl.OK}},
	} {
		var list []impl.Weather
		for i, rain := range one.rains {
			list = append(list, impl.Weather{Rain: rain, Warm: int8(i)})
		}
		first, long, got := impl.DriestSpell(list)
		same(t, fmt.Sprint(one.rains), []int64{first, long, got}, one.want)
	}
}

func TestWettestDays(t *testing.T) {
	for list := range manyWeathers(400) {
		for days := int64(1); days <= impl.MaxWeather; days++ {
			want, rain := []int64{0, 0, impl.ErrNotFound}, int64(-1)
			for from := int64(0); from+days <= int64(len(list)); from++ {
				sum := int64(0)
				for i := range days {
					sum += int64(list[from+i].Rain)
				}
				if sum > rain {
					want, rain = []int64{from, sum, impl.OK}, sum
				}
			}
			first, most, got := impl.WettestDays(list, days)
			same(t, fmt.Sprintf("%d of %v", days, list), []int64{first, most, got}, want)
		}
	}
	list := weatherOf(1, 0, 2, 0, 0, 0, 2, 0, 1, 0)
	for days, want := range [][]int64{{0, 0, impl.ErrRange}, {1, 2, 0}, {0, 3, 0}, {1, 4, 0}, {0, 5, 0}, {0, 6, 0}, {0, 0, impl.ErrNotFound}} {
		first, most, got := impl.WettestDays(list, int64(days))
		same(t, fmt.Sprint(days), []int64{first, most, got}, want)
	}
	first, most, got := impl.WettestDays(sameDays(30, 50, 0), 30)
	same(t, "all", []int64{first, most, got}, []int64{0, 1500, impl.OK})
	first, most, got = impl.WettestDays(sameDays(5, 0, 7), 2)
	same(t, "dry", []int64{first, most, got}, []int64{0, 0, impl.OK})
	_, _, got = impl.WettestDays(nil, 1)
	code(t, "no days", got, impl.ErrNotFound)
}

func TestSeedDays(t *testing.T) {
	random := rand.New(rand.NewSource(7))
	for list := range manyWeathers(600) {
		days, rain, warm := int64(1+random.Intn(4)), int64(random.Intn(25)), int64(random.Intn(25))
		var want []int64
		for from := range list {
			good := int64(0)
			for i := from; i < len(list) && int64(list[i].Rain) >= rain && int64(list[i].Warm) >= warm; i++ {
				good++
			}
			if good >= days {
				want = append(want, int64(from))
			}
		}
		seeds, got := impl.SeedDays(list, days, rain, warm)
		code(t, "seeds", got, impl.OK)
		same(t, fmt.Sprintf("%d, %d, %d of %v", days, rain, warm, list), seeds, want)
	}
	list := weatherOf(5, 10, 5, 10, 4, 10, 5, 10, 5, 9, 5, 10)
	for _, one := range []struct {
		days, rain, warm int64
		want             []int64
	}{
		{1, 5, 10, []int64{0, 1, 3, 5}},
		{2, 5, 10, []int64{0}},
		{3, 5, 10, nil},
		{1, 0, 0, []int64{0, 1, 2, 3, 4, 5}},
		{6, 0, 0, []int64{0}},
		{7, 0, 0, nil},
		{30, 0, 0, nil},
		{2, 4, 9, []int64{0, 1, 2, 3, 4}},
		{4, 4, 10, []int64{0}},
		{1, 6, 0, nil},
		{1, 0, 11, nil},
		{1, 50, 40, nil},
	} {
		seeds, got := impl.SeedDays(list, one.days, one.rain, one.warm)
		code(t, "seeds", got, impl.OK)
		same(t, fmt.Sprint(one), seeds, one.want)
	}
	seeds, got := impl.SeedDays(sameDays(30, 50, 40), 30, 50, 40)
	same(t, "all", []any{seeds, got}, []any{[]int64{0}, int64(impl.OK)})
	seeds, got = impl.SeedDays(nil, 1, 0, 0)
	code(t, "no days", got, impl.OK)
	same(t, "no days", seeds, []int64{})
}

func TestSwapDays(t *testing.T) {
	for list := range manyWeathers(60) {
		for a := range list {
			for b := range list {
				want := slices.Clone(list)
				want[a], want[b] = list[b], list[a]
				swapped, got := impl.SwapDays(list, int64(a), int64(b))
				code(t, "swapped", got, impl.OK)
				same(t, "swapped", swapped, want)
			}
		}
	}
	swapped, got := impl.SwapDays(weatherOf(1, 2, 3, 4, 5, 6), 2, 0)
	code(t, "told", got, impl.OK)
	same(t, "told", swapped, weatherOf(5, 6, 3, 4, 1, 2))
	swapped, _ = impl.SwapDays(weatherOf(1, 2, 3, 4), 1, 1)
	same(t, "with itself", swapped, weatherOf(1, 2, 3, 4))
}

func TestWeatherText(t *testing.T) {
	for list := range manyWeathers(200) {
		var days []string
		for _, w := range list {
			days = append(days, fmt.Sprintf("%d/%d", w.Rain, w.Warm))
		}
		text := strings.Join(days, " ")
		same(t, "text", impl.WeatherText(list), text)
		read, got := impl.ReadWeather(text)
		code(t, text, got, impl.OK)
		same(t, text, read, list)
	}
	same(t, "told", impl.WeatherText(weatherOf(0, 0, 50, 40, 7, 10)), "0/0 50/40 7/10")
	for name, list := range badWeathers() {
		same(t, name, impl.WeatherText(list), "")
	}
	for rain := range int8(51) {
		for warm := range int8(41) {
			read, got := impl.ReadWeather(fmt.Sprintf("%d/%d", rain, warm))
			if got != impl.OK || !slices.Equal(read, weatherOf(rain, warm)) {
				t.Fatalf("%d/%d: got %v (code %d)", rain, warm, read, got)
			}
		}
	}
	read, got := impl.ReadWeather("")
	code(t, "no days", got, impl.OK)
	same(t, "no days", read, []impl.Weather{})
}

// noWeathers returns texts that are no weather's.
func noWeathers() []string {
	list := []string{
		" ", "  ", "/", "//", "x", "1", "12", "1/", "/1", "1/ ", "1 /1", "1/ 1", "1//1", "1/1/", "/1/1", "1/1/1", "1 1", "1-1", `1\1`,
		"01/1", "1/01", "00/0", "0/00", "1/00", "000000000000000000001/1", "5/007",
		"+1/1", "1/+1", "-1/1", "1/-1", "-0/0", "0/-0", "+0/0", "--1/1", "1-/1",
		" 1/1", "1/1 ", "1/1  1/1", " 1/1 1/1", "1/1 1/1 ", "1/1\t1/1", "1/1\n1/1", "1/1\n", "\n1/1", "1/1,1/1", "1/11/1", "1/1\u00a01/1",
		"51/0", "0/41", "127/0", "0/127", "128/0", "0/128", "255/1", "256/0", "0/256", "1/257", "500/40", "50/400", "99999999999999999999/1", "1/99999999999999999999", "18446744073709551617/1", "4294967297/1", "1/18446744073709551616", "100/100",
		"1.0/1", "1/1.0", "1e1/1", "0x1/1", "1_0/1", "1/1_0", "0b1/1", "a/1", "1/a", "١/1", "1/１", "²/1", "\x00/1", "1/1\x00", "\xff", "1/\xff", "1∕1", "NaN/1", "1/1 x", "x 1/1", "1/1 1", "1/1 51/1", "1/1 1/41", "1/1 01/1",
		strings.Repeat("1/1 ", 30), strings.Repeat("1/1 ", 30) + "1/1", "x" + strings.Repeat(" 1/1", 29), strings.Repeat("1/1 ", 29) + "x", strings.Repeat("1/1 ", 29) + "1/1 ", strings.Repeat("1/1 ", 40) + "1/1", strings.Repeat("0/0 ", 29) + "0/0/0",
		strings.Repeat("1/1 ", 100000) + "1/1", strings.Repeat(" ", 1000000), strings.Repeat("1", 1000000), strings.Repeat("/", 1000000), strings.Repeat("0", 1000000) + "/0",
	}
	for b := range 256 {
		list = append(list, string([]byte{byte(b)}), "1/1"+string([]byte{byte(b)}), string([]byte{byte(b)})+"1/1", "1"+string([]byte{byte(b)})+"1")
	}
	// Some of these are weather's after all: a digit ahead of it or behind it, and the slash in between.
	return slices.DeleteFunc(list, func(text string) bool {
		return text == "1/1" || len(text) == 4 && (strings.Contains("1234", text[:1]) && text[1:] == "1/1" || text[:3] == "1/1" && strings.Contains("0123456789", text[3:]))
	})
}

func TestReadWeatherSyntax(t *testing.T) {
	for _, text := range noWeathers() {
		list, got := impl.ReadWeather(text)
		code(t, fmt.Sprintf("%.40q", text), got, impl.ErrSyntax)
		same(t, "nothing", list, []impl.Weather{})
	}
	list, got := impl.ReadWeather(strings.Repeat("50/40 ", 29) + "50/40")
	code(t, "as many as may be", got, impl.OK)
	same(t, "as many as may be", list, sameDays(30, 50, 40))
}
