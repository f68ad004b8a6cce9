package tests

import (
	"iter"
	"math/rand"
	"slices"

	"loop.example/g01405/impl"
)

// weatherOf makes weather of rain and warmth by turns.
func weatherOf(numbers ...int8) []impl.Weather {
	var list []impl.Weather
	for i := 0; i < len(numbers); i += 2 {
		list = append(list, impl.Weather{Rain: numbers[i], Warm: numbers[i+1]})
	}
	return list
}

// sameDays makes weather of so many days that are alike.
func sameDays(count int, rain, warm int8) []impl.Weather {
	return slices.Repeat(weatherOf(rain, warm), count)
}

// growing is the weather of the document's example of chapter 3.
func growing() []impl.Weather { return sameDays(3, 15, 27) }

// growthOn tells by how much grass grows on a day, ten by ten.
func growthOn(w impl.Weather) int64 {
	growth := int64(0)
	for warm := w.Warm; warm >= 10; warm -= 10 {
		growth++
		for rain := w.Rain; rain >= 10; rain -= 10 {
			growth++
		}
	}
	return growth
}

func sumOf(list []int64) int64 {
	sum := int64(0)
	for _, n := range list {
		sum += n
	}
	return sum
}

// grownOver tells by how much grass grows on all days together.
func grownOver(list []impl.Weather) int64 {
	sum := int64(0)
	for _, w := range list {
		sum += growthOn(w)
	}
	return sum
}

// heightsAndClips tells the heights behind each day, and the clippings of each day of a plan.
func heightsAndClips(start, cut int64, list []impl.Weather, plan []int64) (heights, clips []int64) {
	high := start
	for i, w := range list {
		if slices.Index(plan, int64(i)) >= 0 {
			off := int64(0)
			if high > cut {
				off = high - cut
			}
			clips, high = append(clips, off), high-off
		}
		high += growthOn(w)
		heights = append(heights, high)
	}
	return heights, clips
}

// isEnough reports whether grass is never higher than most behind a day with a plan.
func isEnough(start, cut, most int64, list []impl.Weather, plan []int64) bool {
	heights, _ := heightsAndClips(start, cut, list, plan)
	return len(heights) == 0 || slices.Max(heights) <= most
}

// everyPlan returns all plans for so many days.
func everyPlan(days int) [][]int64 {
	plans := make([][]int64, 1<<days)
	for number := range plans {
		for day := range days {
			if number>>day&1 == 1 {
				plans[number] = append(plans[number], int64(day))
			}
		}
	}
	return plans
}

// randomPlan returns a plan for so many days.
func randomPlan(random *rand.Rand, days int) []int64 {
	var plan []int64
	often := 1 + random.Intn(6)
	for day := range days {
		if random.Intn(often) == 0 {
			plan = append(plan, int64(day))
		}
	}
	return plan
}

// randomWeather returns valid weather of so many days, dry or cold on some of them.
func randomWeather(random *rand.Rand, days int) []impl.Weather {
	rains, warms := []int8{0, 0, 9, 10, 19, 20, 49, 50}, []int8{0, 9, 10, 19, 20, 30, 39, 40}
	var list []impl.Weather
	mix := 1 + random.Intn(len(rains))
	for range days {
		w := impl.Weather{Rain: rains[random.Intn(mix)], Warm: warms[random.Intn(mix)]}
		if random.Intn(4) == 0 {
			w = impl.Weather{Rain: int8(random.Intn(51)), Warm: int8(random.Intn(41))}
		}
		list = append(list, w)
	}
	return list
}

// manyWeathers goes through valid weather of all lengths, the same each time.
func manyWeathers(count int) iter.Seq[[]impl.Weather] {
	return func(yield func([]impl.Weather) bool) {
		random := rand.New(rand.NewSource(4))
		given := [][]impl.Weather{nil, growing(), sameDays(1, 0, 0), sameDays(1, 50, 40), sameDays(30, 0, 0), sameDays(30, 50, 40), sameDays(30, 0, 10)}
		for n := range count {
			list := randomWeather(random, n%31)
			if n < len(given) {
				list = given[n]
			}
			if !yield(list) {
				return
			}
		}
	}
}

// lawnDays is grass of some days, and how it is to be kept.
type lawnDays struct {
	start, cut, most int64
	list             []impl.Weather
}

// shortSeasons goes through grass of few days, so that all plans can be tried: with low and high grass, some of it at the limits.
func shortSeasons(count, days int) iter.Seq[lawnDays] {
	return func(yield func(lawnDays) bool) {
		random := rand.New(rand.NewSource(5))
		for n := range count {
			one := lawnDays{list: randomWeather(random, n%(days+1))}
			one.start, one.cut = int64(random.Intn(30)), int64(random.Intn(30))
			one.most = one.cut + int64(random.Intn(50))
			switch n % 10 {
			case 1:
				one.start = 0
			case 2:
				one.cut = 0
			case 3:
				one.most = int64(random.Intn(30))
			case 4:
				one.start = impl.MaxLong
			case 5:
				one.start, one.cut, one.most = int64(150+random.Intn(51)), int64(150+random.Intn(51)), impl.MaxLong
			case 6:
				one.start, one.cut, one.most = 0, 0, int64(random.Intn(20))
			}
			if !yield(one) {
				return
			}
		}
	}
}

// badWeathers returns weather that is not valid, by what is wrong with it.
func badWeathers() map[string][]impl.Weather {
	return map[string][]impl.Weather{
		"rain -1":       weatherOf(-1, 0),
		"rain -128":     weatherOf(0, 0, -128, 10),
		"rain 51":       weatherOf(51, 40),
		"rain 127":      weatherOf(127, 0),
		"warmth -1":     weatherOf(0, -1),
		"warmth -128":   weatherOf(50, -128, 0, 0),
		"warmth 41":     weatherOf(50, 41),
		"warmth 127":    weatherOf(0, 127),
		"last day":      append(sameDays(29, 1, 1), impl.Weather{Rain: 10, Warm: 41}),
		"first day":     append(weatherOf(51, 10), sameDays(29, 1, 1)...),
		"too many":      sameDays(31, 0, 10),
		"far too many":  make([]impl.Weather, 100000),
		"all wrong":     sameDays(40, -5, 99),
		"31st is wrong": append(sameDays(30, 1, 1), impl.Weather{Rain: -1}),
	}
}

// noHeights returns numbers that no height is.
func noHeights() []int64 { return []int64{-1, 201, 256, -1 << 63, 1<<63 - 1} }

// noPlans returns what are no plans for so many days.
func noPlans(days int64) [][]int64 {
	return [][]int64{{days}, {-1}, {0, days}, {-1, 0}, {0, 0}, {1, 0}, {0, 1, 1}, {0, 2, 1}, {2, 1, 0}, {days - 1, days}, {days + 1}, {30}, {-1 << 63}, {1<<63 - 1}, {1 << 32}, {0, 1 << 32}, slices.Repeat([]int64{0}, 1000)}
}

// roomy returns a copy with spare capacity, in which each place has the value with, and a function that reports whether all is as it was.
func roomy[T comparable](list []T, with T) ([]T, func() bool) {
	all := slices.Clone(list)
	for range 40 {
		all = append(all, with)
	}
	kept := slices.Clone(all)
	return all[:len(list)], func() bool { return slices.Equal(all, kept) }
}
