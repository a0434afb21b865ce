package tests

import (
	"math"
	"math/big"
	"slices"
	"strings"
	"testing"

	"loop.example/g01129/impl"
)

// The tests of this file are for promise 4: feedback, words and blocks.

// noLevels is what FeedbackOf and SecondOf must return if they fail.
var noLevels = shown([]int64{}, []int64{}, false)

func TestExamplesOfFeedbackAndWords(t *testing.T) {
	expect(t, "feedback", three(impl.FeedbackOf(values(2, 1, 1, 1), 0, 1)), "[0 1 0] [1 0 1] true")
	expect(t, "word", both(impl.ConstantWord(2, 5, 5)), both("00101", true))
}

// ranges are pairs of a low and a high level.
func ranges() [][2]int64 {
	return [][2]int64{
		{0, 0}, {0, 1}, {-1, 1}, {-1, 0}, {1, 1}, {-3, 2}, {-1, -1}, {2, 5}, {-7, -4}, {0, 255}, {-impl.MaxLevel, impl.MaxLevel},
		{impl.MaxLevel, impl.MaxLevel}, {-impl.MaxLevel, -impl.MaxLevel}, {0, impl.MaxLevel}, {-impl.MaxLevel, 0},
	}
}

// noRanges are pairs of which the functions of feedback take none.
func noRanges() [][2]int64 {
	return [][2]int64{
		{1, 0}, {0, -1}, {2, 1}, {impl.MaxLevel, -impl.MaxLevel}, {0, impl.MaxLevel + 1}, {-impl.MaxLevel - 1, 0}, {impl.MaxLevel + 1, impl.MaxLevel + 1},
		{-impl.MaxLevel - 1, -impl.MaxLevel - 1}, {-impl.MaxLevel - 1, impl.MaxLevel + 1}, {math.MinInt64, math.MaxInt64}, {math.MaxInt64, math.MinInt64},
		{0, math.MaxInt64}, {math.MinInt64, 0}, {math.MaxInt64, math.MaxInt64}, {math.MinInt64, math.MinInt64},
	}
}

// isLevel reports whether a level is the one for x / den: no other level is nearer, and the nearest integer to it decides if two are as near.
func isLevel(level, x, den, low, high int64) bool {
	switch ratio := big.NewRat(x, den); {
	case level < low || level > high:
		return false
	case level == low && ratio.Cmp(big.NewRat(low, 1)) < 0, level == high && ratio.Cmp(big.NewRat(high, 1)) > 0:
		return true
	}
	return isNearest(level, x, den)
}

// checkFeedback checks levels and what is left over against their definitions, where x is made of a numerator and what was left over.
func checkFeedback(t *testing.T, what string, v impl.Values, low, high int64, levels, left []int64, sum func(num, now, before int64) int64) {
	t.Helper()
	if len(levels) != len(v.Nums) || len(left) != len(v.Nums) {
		t.Fatalf("%s of %v from %d to %d: got %v and %v", what, v, low, high, levels, left)
	}
	now, before := int64(0), int64(0)
	for i, num := range v.Nums {
		x := sum(num, now, before)
		if !isLevel(levels[i], x, v.Den, low, high) || left[i] != x-v.Den*levels[i] {
			t.Errorf("%s of %v from %d to %d at %d: got %d and %d for %d", what, v, low, high, i, levels[i], left[i], x)
		}
		now, before = left[i], now
	}
}

// once and more are how feedback and second feedback make x.
func once(num, now, before int64) int64 { return num + now }
func more(num, now, before int64) int64 { return num + 2*now - before }

func TestFeedbackAndSecondByDefinition(t *testing.T) {
	for _, v := range append(append(valuesOfAllKinds(), longValues()...), validValues()...) {
		for _, r := range ranges() {
			low, high := r[0], r[1]
			levels, left, ok := impl.FeedbackOf(v, low, high)
			if !ok {
				t.Errorf("feedback of %v from %d to %d fails", v, low, high)
				continue
			}
			checkFeedback(t, "feedback", v, low, high, levels, left, once)
			if levels, left, ok := impl.SecondOf(v, low, high); ok {
				checkFeedback(t, "second", v, low, high, levels, left, more)
			} else if !passesMaxValue(v, low, high) {
				t.Errorf("second of %v from %d to %d fails", v, low, high)
			}
		}
	}
}

// passesMaxValue reports whether second feedback leaves over something beyond MaxValue.
func passesMaxValue(v impl.Values, low, high int64) bool {
	now, before := int64(0), int64(0)
	for _, num := range v.Nums {
		x := more(num, now, before)
		level := low
		for level < high && !isLevel(level, x, v.Den, low, high) {
			level++
		}
		now, before = x-v.Den*level, now
		if now > impl.MaxValue || now < -impl.MaxValue {
			return true
		}
	}
	return false
}

func TestFeedbackLosesNothing(t *testing.T) {
	for _, v := range append(valuesOfAllKinds(), longValues()...) {
		for _, r := range ranges() {
			levels, left, _ := impl.FeedbackOf(v, r[0], r[1])
			if len(levels) == 0 {
				continue
			}
			sum, _ := impl.SumOf(v)
			for _, level := range levels {
				sum -= v.Den * level
			}
			if sum != left[len(left)-1] {
				t.Errorf("feedback of %v from %d to %d loses %d", v, r[0], r[1], sum-left[len(left)-1])
			}
		}
	}
}

func TestFeedbackWithoutValues(t *testing.T) {
	for _, r := range ranges() {
		expect(t, "feedback", three(impl.FeedbackOf(values(7), r[0], r[1])), "[] [] true")
		expect(t, "second", three(impl.SecondOf(impl.Values{Den: 1, Nums: []int64{}}, r[0], r[1])), "[] [] true")
	}
}

func TestFeedbackOfIntegers(t *testing.T) {
	v := values(3, 6, -9, 0, 3)
	expect(t, "feedback", three(impl.FeedbackOf(v, -5, 5)), "[2 -3 0 1] [0 0 0 0] true")
	expect(t, "second", three(impl.SecondOf(v, -5, 5)), "[2 -3 0 1] [0 0 0 0] true")
	expect(t, "feedback within 0 and 1", three(impl.FeedbackOf(v, 0, 1)), "[1 0 0 0] [3 -6 -6 -3] true")
	expect(t, "second within 0 and 1", three(impl.SecondOf(v, 0, 1)), "[1 0 0 0] [3 -3 -9 -12] true")
}

func TestFeedbackHalfwayBetweenLevels(t *testing.T) {
	for num, want := range map[int64]string{
		-7: "[-4] [1]", -5: "[-2] [-1]", -3: "[-2] [1]", -1: "[0] [-1]", 1: "[0] [1]", 3: "[2] [-1]", 5: "[2] [1]", 7: "[4] [-1]",
	} {
		expect(t, "feedback "+shown(num), three(impl.FeedbackOf(values(2, num), -4, 4)), want+" true")
		expect(t, "second "+shown(num), three(impl.SecondOf(values(2, num), -4, 4)), want+" true")
	}
	// The even level is out of reach, so the one at the end is taken.
	expect(t, "above the end", three(impl.FeedbackOf(values(2, 3), 0, 1)), "[1] [1] true")
	expect(t, "below the end", three(impl.FeedbackOf(values(2, -3), -1, 0)), "[-1] [-1] true")
	expect(t, "second above the end", three(impl.SecondOf(values(2, 3), 0, 1)), "[1] [1] true")
	expect(t, "second below the end", three(impl.SecondOf(values(2, -3), -1, 0)), "[-1] [-1] true")
	// What is left over makes x halfway, on both sides of 0.
	expect(t, "left over", three(impl.FeedbackOf(values(4, 1, 1, -3, -3), -4, 4)), "[0 0 0 -1] [1 2 -1 0] true")
	expect(t, "second left over", three(impl.SecondOf(values(4, 1, 0, 3, -4), -4, 4)), "[0 0 2 -2] [1 2 -2 -2] true")
}

func TestFeedbackWithOneLevel(t *testing.T) {
	v := values(2, 1, 1, 1)
	expect(t, "feedback at 0", three(impl.FeedbackOf(v, 0, 0)), "[0 0 0] [1 2 3] true")
	expect(t, "second at 0", three(impl.SecondOf(v, 0, 0)), "[0 0 0] [1 3 6] true")
	expect(t, "feedback at 1", three(impl.FeedbackOf(v, 1, 1)), "[1 1 1] [-1 -2 -3] true")
	expect(t, "second at 1", three(impl.SecondOf(v, 1, 1)), "[1 1 1] [-1 -3 -6] true")
	expect(t, "greatest level", three(impl.FeedbackOf(v, 1000, 1000)), "[1000 1000 1000] [-1999 -3998 -5997] true")
	expect(t, "least level", three(impl.FeedbackOf(v, -1000, -1000)), "[-1000 -1000 -1000] [2001 4002 6003] true")
	expect(t, "second at the greatest level", three(impl.SecondOf(v, 1000, 1000)), "[1000 1000 1000] [-1999 -5997 -11994] true")
	expect(t, "second at the least level", three(impl.SecondOf(v, -1000, -1000)), "[-1000 -1000 -1000] [2001 6003 12006] true")
}

func TestFeedbackAtTheEndsOfLevels(t *testing.T) {
	// 1000 / 1 and -1000 / 1 are levels; what is beyond them is left over, until it can be made up for.
	v := values(1, 1000, 1001, -1, -1000, -1001, 1)
	expect(t, "feedback", three(impl.FeedbackOf(v, -1000, 1000)), "[1000 1000 0 -1000 -1000 0] [0 1 0 0 -1 0] true")
	expect(t, "second", three(impl.SecondOf(v, -1000, 1000)), "[1000 1000 1 -1000 -1000 -4] [0 1 0 -1 -3 0] true")
	far := values(1000, impl.MaxNum, -impl.MaxNum, impl.MaxNum)
	expect(t, "far", three(impl.FeedbackOf(far, -1000, 1000)), "[1000 -1000 1000] [0 0 0] true")
	expect(t, "farther", three(impl.FeedbackOf(values(1, impl.MaxNum, -impl.MaxNum, -impl.MaxNum), -1000, 1000)), "[1000 -1000 -1000] [999000 0 -999000] true")
}

func TestRangesOfLevels(t *testing.T) {
	for _, v := range validValues() {
		for _, r := range noRanges() {
			expect(t, "feedback "+shown(r), three(impl.FeedbackOf(v, r[0], r[1])), noLevels)
			expect(t, "second "+shown(r), three(impl.SecondOf(v, r[0], r[1])), noLevels)
		}
	}
}

func TestFeedbackOfInvalidValuesFails(t *testing.T) {
	for _, v := range invalidValues() {
		for _, r := range append(ranges(), noRanges()...) {
			expect(t, "feedback "+shown(v, r), three(impl.FeedbackOf(v, r[0], r[1])), noLevels)
			expect(t, "second "+shown(v, r), three(impl.SecondOf(v, r[0], r[1])), noLevels)
		}
	}
}

// Feedback can leave over MaxNum and MaxDen times MaxLevel for each value, but no more: this is less than MaxValue.
func TestFeedbackLeavesOverLessThanMaxValue(t *testing.T) {
	for _, sign := range []int64{1, -1} {
		v := values(impl.MaxDen, repeated(sign*impl.MaxNum, 40)...)
		level := -sign * impl.MaxLevel
		levels, left, ok := impl.FeedbackOf(v, level, level)
		expect(t, "levels", both(levels, ok), both(repeated(level, 40), true))
		for i, n := range left {
			expect(t, "left over", shown(n), shown(sign*2000000*int64(i+1)))
		}
	}
}

// weighted returns 40 numerators of which second feedback with the denominator 1000 and the one level -1000 leaves over MaxValue at last:
// the first one, with the 1000000 that the level adds, counts 40 times then, the next one 39 times, and the last one once.
func weighted() []int64 {
	return append([]int64{600000}, repeated(200000, 39)...)
}

// negated returns the numbers of a list with the other sign.
func negated(list []int64) []int64 {
	others := make([]int64, len(list))
	for i, n := range list {
		others[i] = -n
	}
	return others
}

func TestSecondReachesAndPassesMaxValue(t *testing.T) {
	exact := weighted()
	levels, left, ok := impl.SecondOf(values(1000, exact...), -1000, -1000)
	expect(t, "MaxValue", shown(levels, len(left), ok), shown(repeated(-1000, 40), 40, true))
	expect(t, "last", shown(left[len(left)-1]), shown(impl.MaxValue))
	levels, left, ok = impl.SecondOf(values(1000, negated(exact)...), 1000, 1000)
	expect(t, "-MaxValue", shown(levels, len(left), ok), shown(repeated(1000, 40), 40, true))
	expect(t, "last", shown(left[len(left)-1]), shown(-impl.MaxValue))
	for i := range exact {
		beyond := slices.Clone(exact)
		beyond[i]++
		expect(t, "beyond MaxValue", three(impl.SecondOf(values(1000, beyond...), -1000, -1000)), noLevels)
		expect(t, "beyond -MaxValue", three(impl.SecondOf(values(1000, negated(beyond)...), 1000, 1000)), noLevels)
	}
	exact[39]--
	_, left, ok = impl.SecondOf(values(1000, exact...), -1000, -1000)
	expect(t, "one less", shown(left[39], ok), shown(impl.MaxValue-1, true))
	_, left, ok = impl.SecondOf(values(1000, negated(exact)...), 1000, 1000)
	expect(t, "one more", shown(left[39], ok), shown(-impl.MaxValue+1, true))
}

func TestSecondPassesMaxValueBeforeTheLastValue(t *testing.T) {
	// 1000 times 1000 and 1000000 are added 31 * 32 / 2 times behind the value 31, and MaxValue is passed behind the next one.
	up := repeated(impl.MaxNum, 40)
	_, left, ok := impl.SecondOf(values(1000, up[:31]...), -1000, -1000)
	expect(t, "31 values", shown(left[30], ok), "992000000 true")
	_, left, ok = impl.SecondOf(values(1000, negated(up[:31])...), 1000, 1000)
	expect(t, "31 negative values", shown(left[30], ok), "-992000000 true")
	for count := 32; count <= 40; count++ {
		expect(t, "more values", three(impl.SecondOf(values(1000, up[:count]...), -1000, -1000)), noLevels)
		expect(t, "more negative values", three(impl.SecondOf(values(1000, negated(up[:count])...), 1000, 1000)), noLevels)
	}
}

func TestGreatestOf(t *testing.T) {
	expect(t, "none", both(impl.GreatestOf(nil))+both(impl.GreatestOf([]int64{})), "0 true0 true")
	expect(t, "zeros", both(impl.GreatestOf([]int64{0, 0})), "0 true")
	expect(t, "negative", both(impl.GreatestOf([]int64{1, -3, 2})), "3 true")
	expect(t, "positive", both(impl.GreatestOf([]int64{4, -3, 2})), "4 true")
	expect(t, "last", both(impl.GreatestOf([]int64{4, -3, -5})), "5 true")
	expect(t, "equal", both(impl.GreatestOf([]int64{-4, 4})), "4 true")
	expect(t, "40 numbers", both(impl.GreatestOf(repeated(-7, 40))), "7 true")
	expect(t, "41 numbers", both(impl.GreatestOf(repeated(-7, 41))), noNumber)
	for _, n := range []int64{impl.MaxValue, -impl.MaxValue} {
		expect(t, "limit", both(impl.GreatestOf([]int64{1, n})), both(int64(impl.MaxValue), true))
	}
	for _, n := range []int64{impl.MaxValue + 1, -impl.MaxValue - 1, math.MaxInt64, math.MinInt64} {
		expect(t, "first number", both(impl.GreatestOf([]int64{n, 1})), noNumber)
		expect(t, "last number", both(impl.GreatestOf([]int64{1, n})), noNumber)
	}
}

func TestConstantWordByItsDefinition(t *testing.T) {
	for _, den := range []int64{1, 2, 3, 5, 7, 12, 360, 999, impl.MaxDen} {
		for _, a := range []int64{0, 1, 2, den / 3, den / 2, den - 1, den} {
			if a > den || a < 0 {
				continue
			}
			for _, count := range []int64{0, 1, 2, den, 2*den + 1, impl.MaxWord - 1, impl.MaxWord} {
				if count > impl.MaxWord {
					continue
				}
				word, ok := impl.ConstantWord(a, den, count)
				expect(t, "length "+shown(a, den, count), shown(len(word), ok), shown(count, true))
				for i := range count {
					before, _ := impl.DivFloor(i*a, den)
					behind, _ := impl.DivFloor((i+1)*a, den)
					if want := "01"[behind-before]; word[i] != want {
						t.Errorf("word of %d of %d at %d: got %c, want %c", a, den, i, word[i], want)
					}
				}
			}
		}
	}
}

func TestConstantWordAtItsEnds(t *testing.T) {
	expect(t, "nothing", both(impl.ConstantWord(2, 5, 0)), both("", true))
	expect(t, "0", both(impl.ConstantWord(0, 5, 7)), both("0000000", true))
	expect(t, "den", both(impl.ConstantWord(5, 5, 7)), both("1111111", true))
	expect(t, "1 of 1", both(impl.ConstantWord(1, 1, 3))+both(impl.ConstantWord(0, 1, 3)), both("111", true)+both("000", true))
	expect(t, "not in lowest terms", both(impl.ConstantWord(4, 10, 5)), both("00101", true))
	expect(t, "2 of 5 repeated", both(impl.ConstantWord(2, 5, impl.MaxWord)), both(strings.Repeat("00101", 80), true))
	expect(t, "greatest", both(impl.ConstantWord(impl.MaxDen, impl.MaxDen, impl.MaxWord)), both(strings.Repeat("1", 400), true))
	expect(t, "least", both(impl.ConstantWord(1, impl.MaxDen, impl.MaxWord)), both(strings.Repeat("0", 400), true))
}

func TestConstantWordBeyondTheLimits(t *testing.T) {
	for _, n := range []int64{math.MinInt64, -impl.MaxDen, -5, -1, 6, 1000, math.MaxInt64} {
		expect(t, "a "+shown(n), both(impl.ConstantWord(n, 5, 5)), noText)
	}
	for _, n := range []int64{math.MinInt64, -1, 0, impl.MaxDen + 1, math.MaxInt64} {
		expect(t, "den "+shown(n), both(impl.ConstantWord(0, n, 5))+both(impl.ConstantWord(n, n, 5)), noText+noText)
	}
	for _, n := range []int64{math.MinInt64, -1, impl.MaxWord + 1, math.MaxInt64} {
		expect(t, "count "+shown(n), both(impl.ConstantWord(2, 5, n)), noText)
	}
	expect(t, "a beyond den", both(impl.ConstantWord(1, 0, 0))+both(impl.ConstantWord(2, 1, 0))+both(impl.ConstantWord(impl.MaxDen+1, impl.MaxDen, 1)), noText+noText+noText)
}

func TestBlockSums(t *testing.T) {
	expect(t, "none", both(impl.BlockSums(nil, 1))+both(impl.BlockSums([]int64{}, 7))+both(impl.BlockSums(nil, impl.MaxItems)), "[] true[] true[] true")
	list := []int64{1, 2, 3, -4, 5, -6}
	for size, want := range map[int64]string{1: "[1 2 3 -4 5 -6]", 2: "[3 -1 -1]", 3: "[6 -5]", 6: "[1]"} {
		expect(t, "size "+shown(size), both(impl.BlockSums(list, size)), want+" true")
	}
	for _, size := range []int64{4, 5, 7, 12, impl.MaxItems} {
		expect(t, "size "+shown(size), both(impl.BlockSums(list, size)), noList)
	}
	full := repeated(impl.MaxValue, 40)
	expect(t, "one block", both(impl.BlockSums(full, impl.MaxItems)), "[40000000000] true")
	expect(t, "one negative block", both(impl.BlockSums(negated(full), impl.MaxItems)), "[-40000000000] true")
	expect(t, "two blocks", both(impl.BlockSums(full, 20)), "[20000000000 20000000000] true")
	expect(t, "single numbers", both(impl.BlockSums(full, 1)), both(full, true))
	expect(t, "39 numbers", both(impl.BlockSums(full[:39], impl.MaxItems))+both(impl.BlockSums(full[:39], 13)), noList+"[13000000000 13000000000 13000000000] true")
}

func TestBlockSumsBeyondTheLimits(t *testing.T) {
	for _, size := range []int64{math.MinInt64, -impl.MaxItems, -2, -1, 0, impl.MaxItems + 1, impl.MaxItems + 2, math.MaxInt64} {
		expect(t, "size "+shown(size), both(impl.BlockSums([]int64{1, 2}, size)), noList)
		expect(t, "size of none "+shown(size), both(impl.BlockSums(nil, size)), noList)
	}
	expect(t, "41 numbers", both(impl.BlockSums(repeated(1, 41), 1))+both(impl.BlockSums(repeated(1, 41), 41)), noList+noList)
	expect(t, "80 numbers", both(impl.BlockSums(repeated(1, 80), 40)), noList)
	for _, n := range []int64{impl.MaxValue + 1, -impl.MaxValue - 1, math.MaxInt64, math.MinInt64} {
		expect(t, "first number", both(impl.BlockSums([]int64{n, 1}, 1))+both(impl.BlockSums([]int64{n, 1}, 2)), noList+noList)
		expect(t, "last number", both(impl.BlockSums([]int64{1, n}, 1))+both(impl.BlockSums([]int64{1, n}, 2)), noList+noList)
	}
}
