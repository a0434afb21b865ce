package tests

import (
	"math"
	"testing"

	"loop.example/g01129/impl"
)

// The tests of this file are for promise 5: norms, and the best roundings with a sum.

// norms are all norms, and noNorms are numbers that are none.
func norms() []int64   { return []int64{impl.NormSum, impl.NormSquares, impl.NormMost} }
func noNorms() []int64 { return []int64{-1, 3, math.MinInt64, math.MaxInt64} }

// noBounds is what SumBounds and GroupSums must return if they fail.
var noBounds = shown(0, 0, false)

func TestExamplesOfNorms(t *testing.T) {
	v := values(3, 1, 1, 4)
	for norm, want := range map[int64]int64{impl.NormSum: 4, impl.NormSquares: 6, impl.NormMost: 2} {
		expect(t, "best", both(impl.BestRounding(v, 2, norm)), "[0 0 2] true")
		expect(t, "norm", both(impl.ErrorOf(v, []int64{0, 0, 2}, norm)), both(want, true))
		expect(t, "count", both(impl.CountBest(v, 2, norm)), "3 true")
	}
}

// sumOf returns the sum of a list.
func sumOf(list []int64) int64 {
	sum := int64(0)
	for _, n := range list {
		sum += n
	}
	return sum
}

// withError returns a norm of more errors, of which one more is e.
func withError(norm, soFar, e int64) int64 {
	switch norm {
	case impl.NormSum:
		return soFar + max(e, -e)
	case impl.NormSquares:
		return soFar + e*e
	}
	return max(soFar, e, -e)
}

// normOf returns the norm of a rounding as it is defined.
func normOf(v impl.Values, list []int64, norm int64) int64 {
	result := int64(0)
	for i, n := range list {
		result = withError(norm, result, v.Den*n-v.Nums[i])
	}
	return result
}

func TestErrorOfAllRoundings(t *testing.T) {
	for _, v := range valuesOfAllKinds() {
		for _, list := range allRoundings(v) {
			for _, norm := range norms() {
				want := normOf(v, list, norm)
				if got, ok := impl.ErrorOf(v, list, norm); got != want || !ok {
					t.Errorf("norm %d of %v for %v: got %d and %v, want %d", norm, list, v, got, ok, want)
				}
			}
		}
	}
}

// errorsOf returns all norms of a rounding.
func errorsOf(v impl.Values, list ...int64) string {
	all := ""
	for _, norm := range norms() {
		all += both(impl.ErrorOf(v, list, norm)) + " "
	}
	return all
}

func TestErrorOf(t *testing.T) {
	expect(t, "no values", errorsOf(values(5)), "0 true 0 true 0 true ")
	expect(t, "integers", errorsOf(values(3, 6, -9, 0), 2, -3, 0), "0 true 0 true 0 true ")
	expect(t, "negative", errorsOf(values(3, -7, -2, -3), -3, 0, -1), "4 true 8 true 2 true ")
	expect(t, "halves", errorsOf(values(2, 1, -1, 3), 0, 0, 2), "3 true 3 true 1 true ")
	expect(t, "not in lowest terms", errorsOf(values(6, 4, 3, 2), 1, 0, 0), "7 true 17 true 3 true ")
	expect(t, "greatest up", errorsOf(values(impl.MaxDen, repeated(1, 40)...), repeated(1, 40)...), "39960 true 39920040 true 999 true ")
	expect(t, "greatest down", errorsOf(values(impl.MaxDen, repeated(-1, 40)...), repeated(-1, 40)...), "39960 true 39920040 true 999 true ")
	expect(t, "far from 0", errorsOf(values(999, impl.MaxNum, -impl.MaxNum), 1002, -1002), "1996 true 1992008 true 998 true ")
}

func TestErrorOfWrongArgumentsFails(t *testing.T) {
	v := values(2, 1, 2, -3)
	expect(t, "a rounding", both(impl.ErrorOf(v, []int64{0, 1, -2}, impl.NormSum)), "2 true")
	for _, norm := range noNorms() {
		expect(t, "norm "+shown(norm), both(impl.ErrorOf(v, []int64{0, 1, -2}, norm)), noNumber)
		expect(t, "norm without values", both(impl.ErrorOf(values(1), nil, norm)), noNumber)
	}
	for _, list := range [][]int64{nil, {}, {0}, {0, 1}, {0, 1, -2, 0}, {0, 2, -2}, {2, 1, -2}, {-1, 1, -2}, {0, 1, 0}, {0, 1, -3}, {0, 1, math.MinInt64}, {math.MaxInt64, 1, -2}, repeated(1, 41)} {
		expect(t, "list "+shown(list), errorsOf(v, list...), noNumber+" "+noNumber+" "+noNumber+" ")
	}
	expect(t, "one number without values", errorsOf(values(1), 0), noNumber+" "+noNumber+" "+noNumber+" ")
	for _, v := range invalidValues() {
		zeros := noNumber + " " + noNumber + " " + noNumber + " "
		expect(t, "values "+shown(v), errorsOf(v, repeated(0, len(v.Nums))...)+errorsOf(v, v.Nums...), zeros+zeros)
	}
}

func TestSumBounds(t *testing.T) {
	expect(t, "no values", three(impl.SumBounds(values(7))), "0 0 true")
	expect(t, "integers", three(impl.SumBounds(values(3, 6, -9, 0))), "-1 -1 true")
	expect(t, "negative", three(impl.SumBounds(values(3, -7, -2, -3, 1))), "-5 -2 true")
	expect(t, "least", three(impl.SumBounds(values(1, repeated(-impl.MaxNum, 40)...))), "-40000000 -40000000 true")
	expect(t, "MaxItems", three(impl.SumBounds(values(7, repeated(impl.MaxNum, 40)...))), "5714280 5714320 true")
	for _, v := range append(append(valuesOfAllKinds(), longValues()...), validValues()...) {
		least, greatest := int64(0), int64(0)
		for _, num := range v.Nums {
			ways := waysToRound(num, v.Den)
			least += ways[0]
			greatest += ways[len(ways)-1]
		}
		expect(t, "bounds "+shown(v), three(impl.SumBounds(v)), shown(least, greatest, true))
	}
	for _, v := range invalidValues() {
		expect(t, "bounds "+shown(v), three(impl.SumBounds(v)), noBounds)
	}
}

// bestOf returns the first of the lists with the least norm, and how many there are.
func bestOf(v impl.Values, lists [][]int64, norm int64) ([]int64, int64) {
	least, count := int64(math.MaxInt64), int64(0)
	var best []int64
	for _, list := range lists {
		switch n := normOf(v, list, norm); {
		case n < least:
			best, least, count = list, n, 1
		case n == least:
			count++
		}
	}
	return best, count
}

// checkBest checks the best rounding with a sum, and how many are as good.
func checkBest(t *testing.T, v impl.Values, sum, norm int64, list []int64, count int64) {
	t.Helper()
	what := shown("norm", norm, "sum", sum, v)
	expect(t, "best "+what, both(impl.BestRounding(v, sum, norm)), both(list, true))
	expect(t, "count "+what, both(impl.CountBest(v, sum, norm)), countText(count))
}

// countText is what CountBest must return for a count, as both writes it.
func countText(count int64) string {
	if count > impl.MaxCounted {
		return noNumber
	}
	return both(count, true)
}

// checkNoBest checks that there is no best rounding, and no number of them.
func checkNoBest(t *testing.T, v impl.Values, sum, norm int64) {
	t.Helper()
	what := shown("norm", norm, "sum", sum, v)
	expect(t, "best "+what, both(impl.BestRounding(v, sum, norm)), noList)
	expect(t, "count "+what, both(impl.CountBest(v, sum, norm)), noNumber)
}

func TestBestOfAllRoundings(t *testing.T) {
	for _, v := range valuesOfAllKinds() {
		// The roundings are in order, and so are those with each sum.
		bySum := map[int64][][]int64{}
		for _, list := range allRoundings(v) {
			bySum[sumOf(list)] = append(bySum[sumOf(list)], list)
		}
		low, high, _ := impl.SumBounds(v)
		for _, norm := range norms() {
			for sum := low; sum <= high; sum++ {
				list, count := bestOf(v, bySum[sum], norm)
				checkBest(t, v, sum, norm, list, count)
			}
			checkNoBest(t, v, low-1, norm)
			checkNoBest(t, v, high+1, norm)
		}
	}
}

// unreachable is greater than each norm.
const unreachable = math.MaxInt64 / 4

// endings are the least norms of the last values from each index on, for each sum that their integers have above their floors.
type endings struct {
	v     impl.Values
	norm  int64
	least [][]int64
}

// endingsOf returns the endings of values.
func endingsOf(v impl.Values, norm int64) endings {
	e := endings{v, norm, make([][]int64, len(v.Nums)+1)}
	e.least[len(v.Nums)] = append([]int64{0}, repeated(unreachable, len(v.Nums))...)
	for i := len(v.Nums) - 1; i >= 0; i-- {
		e.least[i] = repeated(unreachable, len(v.Nums)+1)
		for up, n := range waysToRound(v.Nums[i], v.Den) {
			for ups := up; ups <= len(v.Nums); ups++ {
				if behind := e.least[i+1][ups-up]; behind < unreachable {
					e.least[i][ups] = min(e.least[i][ups], withError(norm, behind, v.Den*n-v.Nums[i]))
				}
			}
		}
	}
	return e
}

// joined returns the norm of all errors, of which the first ones and the last ones have these norms.
func (e endings) joined(soFar, behind int64) int64 {
	if e.norm == impl.NormMost {
		return max(soFar, behind)
	}
	return soFar + behind
}

// best returns the first of the roundings with the least norm that have a sum above the floors.
func (e endings) best(ups int) []int64 {
	list, soFar := []int64{}, int64(0)
	most := e.least[0][ups]
	for i, num := range e.v.Nums {
		for up, n := range waysToRound(num, e.v.Den) {
			if up > ups || e.least[i+1][ups-up] == unreachable {
				continue
			}
			next := withError(e.norm, soFar, e.v.Den*n-num)
			behind := e.least[i+1][ups-up]
			if e.joined(next, behind) == most {
				list, soFar, ups = append(list, n), next, ups-up
				break
			}
		}
	}
	return list
}

// count returns how many roundings with the least norm have a sum above the floors.
func (e endings) count(ups int) int64 {
	type state struct {
		ups   int
		soFar int64
	}
	most := e.least[0][ups]
	ways := map[state]int64{{ups, 0}: 1}
	for i, num := range e.v.Nums {
		next := map[state]int64{}
		for at, count := range ways {
			for up, n := range waysToRound(num, e.v.Den) {
				if up > at.ups || e.least[i+1][at.ups-up] == unreachable {
					continue
				}
				soFar := withError(e.norm, at.soFar, e.v.Den*n-num)
				behind := e.least[i+1][at.ups-up]
				if e.joined(soFar, behind) <= most {
					next[state{at.ups - up, soFar}] += count
				}
			}
		}
		ways = next
	}
	sum := int64(0)
	for _, n := range ways {
		sum += n
	}
	return sum
}

// mixedLongValues are long values of which many have equal rests.
func mixedLongValues() []impl.Values {
	var all []impl.Values
	rule := numbers(5)
	for range 40 {
		v := impl.Values{Den: rule.next(2, 9)}
		for range impl.MaxItems {
			v.Nums = append(v.Nums, rule.next(-50, 50))
		}
		all = append(all, v)
	}
	return all
}

func TestBestOfLongValues(t *testing.T) {
	for _, v := range append(longValues(), mixedLongValues()...) {
		low, high, _ := impl.SumBounds(v)
		for _, norm := range norms() {
			e := endingsOf(v, norm)
			for sum := low; sum <= high; sum++ {
				ups := int(sum - low)
				checkBest(t, v, sum, norm, e.best(ups), e.count(ups))
			}
			checkNoBest(t, v, low-1, norm)
			checkNoBest(t, v, high+1, norm)
		}
	}
}

func TestBestWithFewChoices(t *testing.T) {
	for _, norm := range norms() {
		checkBest(t, values(9), 0, norm, nil, 1)
		checkBest(t, impl.Values{Den: impl.MaxDen, Nums: []int64{}}, 0, norm, nil, 1)
		checkNoBest(t, values(9), 1, norm)
		checkNoBest(t, values(9), -1, norm)
		checkBest(t, values(3, 6, -9, 0), -1, norm, []int64{2, -3, 0}, 1)
		checkNoBest(t, values(3, 6, -9, 0), 0, norm)
		checkNoBest(t, values(3, 6, -9, 0), -2, norm)
		checkBest(t, values(5, 2), 0, norm, []int64{0}, 1)
		checkBest(t, values(5, 2), 1, norm, []int64{1}, 1)
		checkBest(t, values(2, -1), 0, norm, []int64{0}, 1)
		checkBest(t, values(2, -1), -1, norm, []int64{-1}, 1)
	}
}

func TestBestWithTheLeastAndTheGreatestSum(t *testing.T) {
	v := values(10, 2, 9, 10, -7, 5)
	for _, norm := range norms() {
		checkBest(t, v, 0, norm, []int64{0, 0, 1, -1, 0}, 1)
		checkBest(t, v, 4, norm, []int64{1, 1, 1, 0, 1}, 1)
		checkBest(t, values(3, -7, -2, -3), -5, norm, []int64{-3, -1, -1}, 1)
		checkBest(t, values(3, -7, -2, -3), -3, norm, []int64{-2, 0, -1}, 1)
	}
}

func TestBestIsTheLeastOfSeveral(t *testing.T) {
	for _, norm := range norms() {
		checkBest(t, values(5, 2, 2), 1, norm, []int64{0, 1}, 2)
		checkBest(t, values(5, -3, -3), -1, norm, []int64{-1, 0}, 2)
		checkBest(t, values(10, 4, 6, 5, 5), 2, norm, []int64{0, 1, 0, 1}, 2)
		checkBest(t, values(10, 8, 5, 2, 5, 5), 3, norm, []int64{1, 0, 0, 1, 1}, 3)
	}
}

func TestBestByNormsThatDiffer(t *testing.T) {
	// One rest of 3 is rounded up with the error 7, so the rest of 7 can be rounded down as well if the greatest error counts alone.
	v := values(10, 7, 3, 3)
	checkBest(t, v, 2, impl.NormSum, []int64{1, 0, 1}, 2)
	checkBest(t, v, 2, impl.NormSquares, []int64{1, 0, 1}, 2)
	checkBest(t, v, 2, impl.NormMost, []int64{0, 1, 1}, 3)
	// Two rests of 6 are rounded down in any case, so the rest of 5 can be rounded up if the greatest error counts alone.
	w := values(10, 6, 5, 6, 6)
	checkBest(t, w, 1, impl.NormSum, []int64{0, 0, 0, 1}, 3)
	checkBest(t, w, 1, impl.NormSquares, []int64{0, 0, 0, 1}, 3)
	checkBest(t, w, 1, impl.NormMost, []int64{0, 0, 0, 1}, 4)
}

func TestBestOfHalves(t *testing.T) {
	v := values(2, 1, -1, 2, 3)
	for _, norm := range norms() {
		checkBest(t, v, 1, norm, []int64{0, -1, 1, 1}, 1)
		checkBest(t, v, 2, norm, []int64{0, -1, 1, 2}, 3)
		checkBest(t, v, 3, norm, []int64{0, 0, 1, 2}, 3)
		checkBest(t, v, 4, norm, []int64{1, 0, 1, 2}, 1)
	}
}

// pascal returns the rows of Pascal's triangle up to a row.
func pascal(last int) [][]int64 {
	rows := [][]int64{{1}}
	for n := 1; n <= last; n++ {
		row := repeated(1, n+1)
		for k := 1; k < n; k++ {
			row[k] = rows[n-1][k-1] + rows[n-1][k]
		}
		rows = append(rows, row)
	}
	return rows
}

// The values that are not rounded in the same way by all best roundings can be rounded up in any number k of n of them,
// so counts are numbers of Pascal's triangle. None of its first rows has MaxCounted itself.
func TestCountBestNextToMaxCounted(t *testing.T) {
	below, beyond := int64(0), int64(math.MaxInt64)
	for _, row := range pascal(impl.MaxItems) {
		for _, n := range row {
			if n <= impl.MaxCounted {
				below = max(below, n)
			} else {
				beyond = min(beyond, n)
			}
		}
	}
	expect(t, "next numbers", shown(below, beyond), "906192 1081575")
	for _, norm := range norms() {
		// Eight values are rounded up in all best roundings, and 6 of 32 halves in any way.
		v := values(10, append(repeated(9, 8), repeated(5, 32)...)...)
		checkBest(t, v, 14, norm, append(append(repeated(1, 8), repeated(0, 26)...), repeated(1, 6)...), 906192)
		checkBest(t, v, 8+26, norm, append(append(repeated(1, 8), repeated(0, 6)...), repeated(1, 26)...), 906192)
		// Fifteen values are rounded down, and 8 of 25 halves up.
		w := values(10, append(repeated(-5, 25), repeated(-9, 15)...)...)
		checkBest(t, w, -40+8, norm, append(append(repeated(-1, 17), repeated(0, 8)...), repeated(-1, 15)...), 1081575)
		checkBest(t, w, -40+7, norm, append(append(repeated(-1, 18), repeated(0, 7)...), repeated(-1, 15)...), 480700)
	}
}

func TestCountBestOfHalves(t *testing.T) {
	for n, row := range pascal(impl.MaxItems) {
		for k, count := range row {
			list := append(repeated(0, n-k), repeated(1, k)...)
			for _, norm := range norms() {
				checkBest(t, values(2, repeated(1, n)...), int64(k), norm, list, count)
			}
		}
	}
}

func TestCountBestOfMaxItemsByNorm(t *testing.T) {
	// The greatest error is 6 if a rest of 4 is rounded up, and then the rests of 5 and 6 can be rounded down as well.
	v := values(10, append(append(repeated(4, 14), repeated(5, 13)...), repeated(6, 13)...)...)
	rows := pascal(40)
	checkBest(t, v, 30, impl.NormMost, append(repeated(0, 10), repeated(1, 30)...), rows[40][30])
	checkBest(t, v, 37, impl.NormMost, append(repeated(0, 3), repeated(1, 37)...), rows[40][3])
	checkBest(t, v, 37, impl.NormSum, append(repeated(0, 3), repeated(1, 37)...), rows[14][3])
	checkBest(t, v, 37, impl.NormSquares, append(repeated(0, 3), repeated(1, 37)...), rows[14][3])
	// All rests of 6 are rounded up, so no error is greater than 5.
	checkBest(t, v, 20, impl.NormMost, append(append(repeated(0, 14), repeated(0, 6)...), repeated(1, 20)...), rows[13][7])
	checkBest(t, v, 20, impl.NormSum, append(append(repeated(0, 14), repeated(0, 6)...), repeated(1, 20)...), rows[13][7])
	checkBest(t, v, 5, impl.NormMost, append(repeated(0, 35), repeated(1, 5)...), rows[40][5])
	checkBest(t, v, 5, impl.NormSquares, append(repeated(0, 35), repeated(1, 5)...), rows[13][5])
}

func TestBestOfWrongArgumentsFails(t *testing.T) {
	v := values(3, 1, 1, 4)
	for _, norm := range noNorms() {
		checkNoBest(t, v, 2, norm)
		checkNoBest(t, values(1), 0, norm)
	}
	for _, norm := range norms() {
		for _, sum := range []int64{0, 5, -1, 6, math.MinInt64, math.MaxInt64} {
			checkNoBest(t, v, sum, norm)
		}
		for _, v := range invalidValues() {
			for _, sum := range []int64{0, sumOf(v.Nums), 1, -1} {
				checkNoBest(t, v, sum, norm)
			}
		}
	}
}
