package tests

import (
	"math"
	"testing"

	"loop.example/g01129/impl"
)

// The tests of this file are for promise 5: percents.

func TestExampleOfPercents(t *testing.T) {
	expect(t, "thirds", both(impl.PercentsOf([]int64{1, 1, 1}, 0)), "[33 33 34] true")
}

// wholeWith returns 100 percent with places behind the point.
func wholeWith(places int64) int64 { return []int64{100, 1000, 10000, 100000}[places] }

// sharesOf returns the fractions of the whole that counts are. Their denominator can be greater than MaxDen.
func sharesOf(counts []int64, places int64) impl.Values {
	v := impl.Values{Den: sumOf(counts)}
	for _, n := range counts {
		v.Nums = append(v.Nums, n*wholeWith(places))
	}
	return v
}

func TestPercentsOf(t *testing.T) {
	for _, n := range []int64{1, 7, impl.MaxNum} {
		expect(t, "one count", both(impl.PercentsOf([]int64{n}, 0)), "[100] true")
		expect(t, "one count with MaxPlaces", both(impl.PercentsOf([]int64{n}, impl.MaxPlaces)), "[100000] true")
	}
	expect(t, "zeros", both(impl.PercentsOf([]int64{0, 3, 0, 1, 0}, 0)), "[0 75 0 25 0] true")
	expect(t, "zeros and one count", both(impl.PercentsOf([]int64{0, 0, 5}, 2)), "[0 0 10000] true")
	expect(t, "even", both(impl.PercentsOf([]int64{2, 5, 3}, 0)), "[20 50 30] true")
	expect(t, "even with one place", both(impl.PercentsOf([]int64{1, 5, 2}, 1)), "[125 625 250] true")
	expect(t, "halves", both(impl.PercentsOf([]int64{1, 5, 2}, 0)), "[12 63 25] true")
	expect(t, "sevenths", both(impl.PercentsOf([]int64{1, 2, 4}, 0)), "[14 29 57] true")
	expect(t, "sevenths with MaxPlaces", both(impl.PercentsOf([]int64{1, 2, 4}, impl.MaxPlaces)), "[14286 28571 57143] true")
	expect(t, "not the nearest ones", both(impl.PercentsOf([]int64{1, 1, 1, 1, 1, 1}, 0)), "[16 16 17 17 17 17] true")
	expect(t, "unequal", both(impl.PercentsOf([]int64{impl.MaxNum, 1}, 3)), "[100000 0] true")
	expect(t, "more unequal", both(impl.PercentsOf([]int64{1, impl.MaxNum, 0}, 0)), "[0 100 0] true")
	expect(t, "MaxItems", both(impl.PercentsOf(repeated(1, 40), 0)), both(append(repeated(2, 20), repeated(3, 20)...), true))
	expect(t, "MaxItems of MaxNum", both(impl.PercentsOf(repeated(impl.MaxNum, 40), 0)), both(append(repeated(2, 20), repeated(3, 20)...), true))
	expect(t, "MaxItems and MaxPlaces", both(impl.PercentsOf(repeated(impl.MaxNum, 40), 3)), both(repeated(2500, 40), true))
}

func TestPercentsOfAreTheBestOfAllLists(t *testing.T) {
	rule := numbers(6)
	for range 600 {
		counts := []int64{rule.next(1, 9)}
		most := []int64{3, 30, impl.MaxNum}[rule.next(0, 2)]
		for range rule.next(0, 7) {
			counts = append(counts, rule.next(0, most))
		}
		for places := int64(0); places <= impl.MaxPlaces; places++ {
			v := sharesOf(counts, places)
			var lists [][]int64
			for _, list := range allRoundings(v) {
				if sumOf(list) == wholeWith(places) {
					lists = append(lists, list)
				}
			}
			best, _ := bestOf(v, lists, impl.NormSum)
			expect(t, "percents "+shown(counts, places), both(impl.PercentsOf(counts, places)), both(best, true))
		}
	}
}

func TestPercentsOfMaxItems(t *testing.T) {
	rule := numbers(7)
	for _, most := range []int64{1, 2, 5, 100, impl.MaxNum} {
		for range 20 {
			counts := []int64{1}
			for len(counts) < impl.MaxItems {
				counts = append(counts, rule.next(0, most))
			}
			for places := int64(0); places <= impl.MaxPlaces; places++ {
				v := sharesOf(counts, places)
				floors := int64(0)
				for _, num := range v.Nums {
					floors += num / v.Den
				}
				best := endingsOf(v, impl.NormSum).best(int(wholeWith(places) - floors))
				expect(t, "percents "+shown(counts, places), both(impl.PercentsOf(counts, places)), both(best, true))
			}
		}
	}
}

// noCounts are lists that are no counts.
func noCounts() [][]int64 {
	return [][]int64{
		nil, {}, {0}, {0, 0}, repeated(0, 40), {-1}, {1, -1}, {-1, 2}, {3, -1, 3}, {impl.MaxNum + 1}, {1, impl.MaxNum + 1}, {impl.MaxNum + 1, 1},
		repeated(1, 41), repeated(0, 41), {math.MinInt64}, {math.MaxInt64}, {math.MaxInt64, math.MaxInt64, 3}, {math.MinInt64, math.MaxInt64, 2},
	}
}

func TestPercentsOfWrongArgumentsFail(t *testing.T) {
	for _, counts := range noCounts() {
		for places := int64(0); places <= impl.MaxPlaces; places++ {
			expect(t, "counts "+shown(counts), both(impl.PercentsOf(counts, places)), noList)
		}
	}
	for _, places := range []int64{-1, impl.MaxPlaces + 1, math.MinInt64, math.MaxInt64} {
		expect(t, "places "+shown(places), both(impl.PercentsOf([]int64{1, 1, 1}, places)), noList)
	}
}
