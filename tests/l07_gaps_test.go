package tests

import (
	"math"
	"testing"

	"loop.example/g01129/impl"
)

// The tests of this file are for promise 8: gaps between points on a circle.

func TestExamplesOfGaps(t *testing.T) {
	expect(t, "gaps", both(impl.GapsOf(2, 5, 3)), "[1 2] true")
	expect(t, "the same", both(impl.GapsOf(2, 4, 3)), noList)
}

// gapsAround walks around the circle and returns the set of the lengths of the gaps, and whether no two points are the same.
func gapsAround(a, den, count int64) ([]int64, bool) {
	points := make([]bool, den)
	point := int64(0)
	for range count {
		if points[point] {
			return nil, false
		}
		points[point] = true
		point = (point + a) % den
	}
	lengths := make([]bool, den+1)
	length := int64(0)
	for place := int64(1); place <= den; place++ {
		length++
		if points[place%den] {
			lengths[length] = true
			length = 0
		}
	}
	var set []int64
	for length, has := range lengths {
		if has {
			set = append(set, int64(length))
		}
	}
	return set, true
}

// checkGaps checks the gaps of some points, and what the document says of all of them, and returns how many lengths there are.
func checkGaps(t *testing.T, a, den, count int64) int {
	t.Helper()
	gaps, ok := impl.GapsOf(a, den, count)
	want, wantOK := gapsAround(a, den, count)
	expect(t, "gaps "+shown(a, den, count), both(gaps, ok), both(want, wantOK))
	if len(want) > 3 || len(want) == 3 && want[2] != want[0]+want[1] {
		t.Errorf("gaps %d, %d, %d: %v", a, den, count, want)
	}
	return len(want)
}

func TestGapsOfSmallCircles(t *testing.T) {
	numbersOfLengths := [4]int{}
	for den := int64(1); den <= 36; den++ {
		for a := range den {
			for count := int64(1); count <= den; count++ {
				numbersOfLengths[checkGaps(t, a, den, count)]++
			}
		}
	}
	for count, times := range numbersOfLengths {
		if times < 100 {
			t.Errorf("only %d circles have %d lengths", times, count)
		}
	}
}

func TestGapsOfAnyCircles(t *testing.T) {
	rule := numbers(39)
	for range 3000 {
		den := rule.next(1, impl.MaxDen)
		checkGaps(t, rule.next(0, den-1), den, rule.next(1, rule.next(1, den)))
	}
}

func TestGapsAtTheLimits(t *testing.T) {
	expect(t, "one point", both(impl.GapsOf(0, 1, 1))+both(impl.GapsOf(0, 7, 1))+both(impl.GapsOf(3, 7, 1))+both(impl.GapsOf(0, impl.MaxDen, 1))+both(impl.GapsOf(999, impl.MaxDen, 1)), "[1] true[7] true[7] true[1000] true[1000] true")
	expect(t, "all points", both(impl.GapsOf(1, 2, 2))+both(impl.GapsOf(3, 7, 7))+both(impl.GapsOf(999, impl.MaxDen, impl.MaxDen))+both(impl.GapsOf(377, impl.MaxDen, impl.MaxDen)), "[1] true[1] true[1] true[1] true")
	expect(t, "one length", both(impl.GapsOf(2, 4, 2))+both(impl.GapsOf(4, 12, 3))+both(impl.GapsOf(250, impl.MaxDen, 4)), "[2] true[4] true[250] true")
	expect(t, "two lengths", both(impl.GapsOf(1, 5, 2))+both(impl.GapsOf(1, impl.MaxDen, impl.MaxDen-1))+both(impl.GapsOf(1, impl.MaxDen, 2)), "[1 4] true[1 2] true[1 999] true")
	expect(t, "three lengths", both(impl.GapsOf(2, 7, 3))+both(impl.GapsOf(5, 17, 5))+both(impl.GapsOf(377, impl.MaxDen, 4))+both(impl.GapsOf(2, 9, 3)), both(gapsAround(2, 7, 3))+both(gapsAround(5, 17, 5))+both(gapsAround(377, impl.MaxDen, 4))+"[2 5] true")
	expect(t, "the same", both(impl.GapsOf(0, 7, 2))+both(impl.GapsOf(0, 2, 2))+both(impl.GapsOf(2, 4, 3))+both(impl.GapsOf(2, 4, 4))+both(impl.GapsOf(500, impl.MaxDen, 3))+both(impl.GapsOf(998, impl.MaxDen, 501)), noList+noList+noList+noList+noList+noList)
	expect(t, "just not the same", both(impl.GapsOf(998, impl.MaxDen, 500))+both(impl.GapsOf(500, impl.MaxDen, 2)), "[2] true[500] true")
}

func TestGapsBeyondTheLimitsFail(t *testing.T) {
	for _, wrong := range [][3]int64{
		{5, 5, 3}, {-1, 5, 3}, {6, 5, 3}, {7, 5, 1}, {2, 5, 0}, {2, 5, -1}, {2, 5, 6}, {0, 0, 0}, {0, 0, 1}, {-1, 0, 1}, {0, -1, 1}, {-2, -1, -1}, {0, 1, 0}, {0, 1, 2}, {1, 1, 1},
		{1, impl.MaxDen + 1, 3}, {0, impl.MaxDen + 1, 1}, {1, impl.MaxDen, impl.MaxDen + 1}, {impl.MaxDen, impl.MaxDen, 1}, {2, 5, math.MaxInt64}, {2, 5, math.MinInt64}, {math.MaxInt64, 5, 2}, {math.MinInt64, 5, 2},
	} {
		expect(t, "no gaps "+shown(wrong), both(impl.GapsOf(wrong[0], wrong[1], wrong[2])), noList)
	}
	for _, n := range extremes() {
		for _, m := range extremes() {
			if n < 1 || n > impl.MaxDen {
				expect(t, "den", both(impl.GapsOf(m, n, 1))+both(impl.GapsOf(0, n, m))+both(impl.GapsOf(n, n, n)), noList+noList+noList)
			}
			if n < 0 || n > 4 {
				expect(t, "a", both(impl.GapsOf(n, 5, m)), noList)
			}
			if n < 1 || n > 5 {
				expect(t, "count", both(impl.GapsOf(2, 5, n))+both(impl.GapsOf(m, 5, n)), noList+noList)
			}
		}
	}
}
