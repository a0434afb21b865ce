package tests

import (
	"math"
	"slices"
	"testing"

	"loop.example/g01129/impl"
)

// The tests of this file are for promise 4: running sums.

// noBest is what BestRunning must return if it fails.
var noBest = shown([]int64{}, 0, false)

func TestExamplesOfRunningSums(t *testing.T) {
	v := values(2, 1, 1, 1)
	expect(t, "prefix floors", both(impl.PrefixFloors(v)), "[0 1 0] true")
	expect(t, "best", three(impl.BestRunning(v)), "[0 1 0] 1 true")
}

// sumsOfErrors returns the running errors of a list as they are defined.
func sumsOfErrors(v impl.Values, list []int64) []int64 {
	sums := make([]int64, len(list))
	for i := range list {
		for k := 0; k <= i; k++ {
			sums[i] += v.Den*list[k] - v.Nums[k]
		}
	}
	return sums
}

// greatestError returns the greatest absolute running error of a list.
func greatestError(v impl.Values, list []int64) int64 {
	greatest := int64(0)
	for _, sum := range sumsOfErrors(v, list) {
		greatest = max(greatest, sum, -sum)
	}
	return greatest
}

// waysToRound returns the integers that are the floor or the ceiling of num / den, the lesser one first.
func waysToRound(num, den int64) []int64 {
	var ways []int64
	for n := num/den - 1; n <= num/den+1; n++ {
		if isFloor(n, num, den) || isCeiling(n, num, den) {
			ways = append(ways, n)
		}
	}
	return ways
}

// allRoundings returns all roundings of values, the lexicographically least one first.
func allRoundings(v impl.Values) [][]int64 {
	lists := [][]int64{{}}
	for _, num := range v.Nums {
		var longer [][]int64
		for _, list := range lists {
			for _, n := range waysToRound(num, v.Den) {
				longer = append(longer, append(slices.Clone(list), n))
			}
		}
		lists = longer
	}
	return lists
}

// numbers are numbers that follow a rule and look like any others.
type numbers uint64

// next returns a number from low to high.
func (n *numbers) next(low, high int64) int64 {
	*n = *n*6364136223846793005 + 1442695040888963407
	return low + int64(uint64(*n>>33)%uint64(high-low+1))
}

// valuesOfAllKinds returns values with at most 9 numerators, among them all short ones with small numbers.
func valuesOfAllKinds() []impl.Values {
	var all []impl.Values
	for den := int64(1); den <= 4; den++ {
		all = append(all, values(den))
		for a := int64(-5); a <= 5; a++ {
			all = append(all, values(den, a))
			for b := int64(-5); b <= 5; b++ {
				all = append(all, values(den, a, b), values(den, a, b, a+1), values(den, b, b, a, a))
			}
		}
	}
	rule := numbers(3)
	for range 1500 {
		v := impl.Values{Den: rule.next(1, 12)}
		for range rule.next(3, 9) {
			v.Nums = append(v.Nums, rule.next(-30, 30))
		}
		all = append(all, v)
	}
	for range 200 {
		v := impl.Values{Den: rule.next(900, impl.MaxDen)}
		for range rule.next(3, 9) {
			v.Nums = append(v.Nums, rule.next(-impl.MaxNum, impl.MaxNum))
		}
		all = append(all, v)
	}
	return all
}

// longValues returns values with MaxItems numerators.
func longValues() []impl.Values {
	all := []impl.Values{
		values(2, repeated(1, 40)...), values(3, repeated(1, 40)...), values(3, repeated(-1, 40)...), values(impl.MaxDen, repeated(1, 40)...),
		values(impl.MaxDen, repeated(501, 40)...), values(impl.MaxDen, repeated(-999999, 40)...), values(1, repeated(impl.MaxNum, 40)...),
		values(7, repeated(impl.MaxNum, 40)...), values(999, repeated(-impl.MaxNum, 40)...),
	}
	rule := numbers(4)
	for range 60 {
		v := impl.Values{Den: rule.next(2, impl.MaxDen)}
		for range impl.MaxItems {
			v.Nums = append(v.Nums, rule.next(-impl.MaxNum, impl.MaxNum))
		}
		all = append(all, v)
	}
	return all
}

func TestRunningErrors(t *testing.T) {
	expect(t, "no values", both(impl.RunningErrors(values(5), nil)), "[] true")
	expect(t, "no rounding", both(impl.RunningErrors(values(4, 3, 5, 0), []int64{-2, 7, 0})), "[-11 12 12] true")
	expect(t, "negative", both(impl.RunningErrors(values(3, -7, -2, -1), []int64{-3, -1, 0})), "[-2 -3 -2] true")
	expect(t, "integers", both(impl.RunningErrors(values(3, -6, 6, 0), []int64{-2, 2, 0})), "[0 0 0] true")
	sums, ok := impl.RunningErrors(values(impl.MaxDen, repeated(-impl.MaxNum, 40)...), repeated(impl.MaxNum, 40))
	expect(t, "limits", shown(len(sums), sums[0], sums[39], ok), "40 1001000000 40040000000 true")
	for _, v := range valuesOfAllKinds() {
		list := slices.Clone(v.Nums)
		slices.Reverse(list)
		expect(t, "errors "+shown(v), both(impl.RunningErrors(v, list)), both(sumsOfErrors(v, list), true))
	}
}

func TestRunningErrorsOfWrongLists(t *testing.T) {
	v := values(4, 3, 5)
	for _, list := range [][]int64{nil, {}, {1}, {1, 1, 1}, repeated(1, 41)} {
		expect(t, "length "+shown(list), both(impl.RunningErrors(v, list)), noList)
		expect(t, "length "+shown(list), shown(impl.IsRunning(v, list)), "false")
	}
	expect(t, "no values", both(impl.RunningErrors(values(4), []int64{0})), noList)
	for _, n := range []int64{impl.MaxNum, -impl.MaxNum} {
		expect(t, "limit", both(impl.RunningErrors(v, []int64{n, -n})), both([]int64{4*n - 3, -8}, true))
	}
	for _, n := range []int64{impl.MaxNum + 1, -impl.MaxNum - 1, impl.MaxValue, -impl.MaxValue, math.MaxInt64, math.MinInt64} {
		expect(t, "first number", both(impl.RunningErrors(v, []int64{n, 1})), noList)
		expect(t, "last number", both(impl.RunningErrors(v, []int64{1, n})), noList)
		expect(t, "first number", shown(impl.IsRunning(v, []int64{n, 1})), "false")
		expect(t, "last number", shown(impl.IsRunning(v, []int64{1, n})), "false")
	}
}

func TestIsRunningOfAllRoundings(t *testing.T) {
	for _, v := range valuesOfAllKinds() {
		for _, list := range allRoundings(v) {
			if want := greatestError(v, list) < v.Den; impl.IsRunning(v, list) != want {
				t.Errorf("%v runs with %v: got %v, want %v", list, v, !want, want)
			}
		}
	}
}

func TestIsRunningAtDen(t *testing.T) {
	expect(t, "no values", shown(impl.IsRunning(values(1), nil), impl.IsRunning(values(1), []int64{}), impl.IsRunning(values(1), []int64{0})), "true true false")
	half := values(2, 1, 1)
	expect(t, "-Den", both(impl.RunningErrors(half, []int64{0, 0})), "[-1 -2] true")
	expect(t, "Den", both(impl.RunningErrors(half, []int64{1, 1})), "[1 2] true")
	expect(t, "Den or -Den", shown(impl.IsRunning(half, []int64{0, 0}), impl.IsRunning(half, []int64{1, 1})), "false false")
	expect(t, "less", shown(impl.IsRunning(half, []int64{0, 1}), impl.IsRunning(half, []int64{1, 0})), "true true")
	tail := values(2, 1, 1, 1, 1)
	expect(t, "Den in the middle", shown(impl.IsRunning(tail, []int64{1, 1, 0, 0}), impl.IsRunning(tail, []int64{0, 0, 1, 1}), impl.IsRunning(tail, []int64{0, 1, 1, 0})), "false false true")
	near := values(impl.MaxDen, 1, 998, 1)
	expect(t, "one less than Den", shown(impl.IsRunning(near, []int64{1, 0, 0}), impl.IsRunning(near, []int64{0, 0, 1}), impl.IsRunning(near, []int64{0, 0, 0})), "true true false")
	least := values(3, -1, -1, -1)
	expect(t, "negative", shown(impl.IsRunning(least, []int64{0, 0, -1}), impl.IsRunning(least, []int64{0, 0, 0}), impl.IsRunning(least, []int64{-1, -1, 0}), impl.IsRunning(least, []int64{-1, 0, 0})), "true false false true")
}

func TestListsThatAreNoRoundingsDoNotRun(t *testing.T) {
	v := values(2, 2, 1, 1)
	expect(t, "an integer", shown(impl.IsRunning(v, []int64{1, 0, 1}), impl.IsRunning(v, []int64{0, 1, 1}), impl.IsRunning(v, []int64{2, 0, 0})), "true false false")
	// All running errors of this list are less than Den, but it has -1 in the place of 0.
	far := []int64{1, -1, 3}
	expect(t, "errors", both(impl.RunningErrors(values(4, 2, 0, 9), far)), "[2 -2 1] true")
	expect(t, "no rounding", shown(impl.IsRunning(values(4, 2, 0, 9), far)), "false")
	expect(t, "integers", shown(impl.IsRunning(values(3, 6, -9, 0), []int64{2, -3, 0}), impl.IsRunning(values(3, 6, -9, 0), []int64{2, -3, 1})), "true false")
	expect(t, "greatest", shown(impl.IsRunning(values(1, impl.MaxNum, -impl.MaxNum), []int64{impl.MaxNum, -impl.MaxNum})), "true")
}

// prefixRounded returns the sum of the first numerators divided by Den, as a function of chapter 1 rounds it.
func prefixRounded(t *testing.T, v impl.Values, count int, round func(a, b int64) (int64, bool)) int64 {
	t.Helper()
	sum := int64(0)
	for _, num := range v.Nums[:count] {
		sum += num
	}
	n, ok := round(sum, v.Den)
	if !ok {
		t.Fatalf("%d / %d cannot be rounded", sum, v.Den)
	}
	return n
}

func TestPrefixFloorsAndNearest(t *testing.T) {
	expect(t, "no values", both(impl.PrefixFloors(values(9)))+both(impl.PrefixNearest(values(9))), "[] true[] true")
	expect(t, "nearest", both(impl.PrefixNearest(values(2, 1, 1, 1))), "[0 1 1] true")
	expect(t, "nearest of four", both(impl.PrefixNearest(values(2, 1, 2, 2, -5))), "[0 2 0 -2] true")
	expect(t, "negative floors", both(impl.PrefixFloors(values(2, -1, -1, -1, 3))), "[-1 0 -1 2] true")
	expect(t, "negative nearest", both(impl.PrefixNearest(values(2, -1, -1, -1, 3))), "[0 -1 -1 2] true")
	expect(t, "integers", both(impl.PrefixFloors(values(3, 6, -9, 0)))+both(impl.PrefixNearest(values(3, 6, -9, 0))), "[2 -3 0] true[2 -3 0] true")
	for _, v := range append(valuesOfAllKinds(), longValues()...) {
		floors, one := impl.PrefixFloors(v)
		nearest, two := impl.PrefixNearest(v)
		if !one || !two || len(floors) != len(v.Nums) || len(nearest) != len(v.Nums) {
			t.Fatalf("prefixes of %v: got %v and %v", v, floors, nearest)
		}
		for i := range v.Nums {
			down := prefixRounded(t, v, i+1, impl.DivFloor) - prefixRounded(t, v, i, impl.DivFloor)
			near := prefixRounded(t, v, i+1, impl.DivNearest) - prefixRounded(t, v, i, impl.DivNearest)
			if floors[i] != down || nearest[i] != near {
				t.Errorf("prefixes of %v at %d: got %d and %d, want %d and %d", v, i, floors[i], nearest[i], down, near)
			}
		}
		if !impl.IsRunning(v, floors) {
			t.Errorf("prefix floors of %v do not run: %v", v, floors)
		}
		if 2*greatestError(v, nearest) > v.Den {
			t.Errorf("prefix nearest of %v has errors beyond half of Den: %v", v, nearest)
		}
	}
}

func TestCountAndBestOfAllRoundings(t *testing.T) {
	for _, v := range valuesOfAllKinds() {
		count, least := int64(0), int64(math.MaxInt64)
		var best []int64
		for _, list := range allRoundings(v) {
			greatest := greatestError(v, list)
			if greatest < v.Den {
				count++
			}
			// The roundings are in order, so the first one with the least error is the one to return.
			if greatest < least {
				best, least = list, greatest
			}
		}
		expect(t, "count "+shown(v), both(impl.CountRunning(v)), both(count, true))
		expect(t, "best "+shown(v), three(impl.BestRunning(v)), shown(best, least, true))
	}
}

func TestCountAndBestOfFewChoices(t *testing.T) {
	for _, v := range []impl.Values{values(1), {Den: impl.MaxDen, Nums: []int64{}}} {
		expect(t, "no values", both(impl.CountRunning(v))+three(impl.BestRunning(v)), "1 true[] 0 true")
	}
	expect(t, "integers", both(impl.CountRunning(values(3, 6, -9, 0)))+three(impl.BestRunning(values(3, 6, -9, 0))), "1 true[2 -3 0] 0 true")
	expect(t, "one value", both(impl.CountRunning(values(5, 2)))+three(impl.BestRunning(values(5, 2))), "2 true[0] 2 true")
	expect(t, "one negative value", both(impl.CountRunning(values(5, -2)))+three(impl.BestRunning(values(5, -2))), "2 true[0] 2 true")
	expect(t, "halves", both(impl.CountRunning(values(2, 1)))+three(impl.BestRunning(values(2, 1))), "2 true[0] 1 true")
	expect(t, "negative halves", both(impl.CountRunning(values(2, -1)))+three(impl.BestRunning(values(2, -1))), "2 true[-1] 1 true")
}

func TestBestRunningIsTheLeastOfSeveral(t *testing.T) {
	// All four lists that run with these values have the greatest error 1.
	v := values(2, 1, 1, 1)
	for _, list := range [][]int64{{0, 1, 0}, {0, 1, 1}, {1, 0, 0}, {1, 0, 1}} {
		expect(t, "error "+shown(list), shown(impl.IsRunning(v, list), greatestError(v, list)), "true 1")
	}
	expect(t, "least", both(impl.CountRunning(v))+three(impl.BestRunning(v)), "4 true[0 1 0] 1 true")
	// The running error behind the second value is 2 or -2, and so is that behind the last one.
	expect(t, "two halves", three(impl.BestRunning(values(4, 1, 1, 2, 2))), "[0 0 1 0] 2 true")
	expect(t, "two negative halves", three(impl.BestRunning(values(4, -1, -1, -2, -2))), "[0 -1 0 -1] 2 true")
}

// fibonacci returns the n-th number of Fibonacci, of which the first and the second are 1.
func fibonacci(n int) int64 {
	a, b := int64(0), int64(1)
	for range n {
		a, b = b, a+b
	}
	return a
}

func TestCountRunningOfMaxItems(t *testing.T) {
	// Each pair of halves is rounded down and up, or up and down.
	expect(t, "halves", both(impl.CountRunning(values(2, repeated(1, 40)...))), both(int64(1)<<20, true))
	expect(t, "negative halves", both(impl.CountRunning(values(2, repeated(-1, 40)...))), both(int64(1)<<20, true))
	// One of three thirds is rounded up, and the last one as it likes.
	expect(t, "thirds", both(impl.CountRunning(values(3, repeated(1, 40)...))), both(int64(2*1594323), true))
	// At most one of such small values is rounded up.
	expect(t, "thousandths", both(impl.CountRunning(values(1000, repeated(1, 40)...))), both(int64(41), true))
	expect(t, "nearly one", both(impl.CountRunning(values(1000, repeated(999, 40)...))), both(int64(41), true))
	// Values a bit greater than a half make both running errors go on in turn.
	expect(t, "most", both(impl.CountRunning(values(1000, repeated(501, 40)...))), both(fibonacci(42), true))
	expect(t, "integers", both(impl.CountRunning(values(1, repeated(-7, 40)...))), both(int64(1), true))
}

// countByForwardSums counts the lists that run, by how many ways lead to each running error.
func countByForwardSums(v impl.Values) int64 {
	ways := map[int64]int64{0: 1}
	for _, num := range v.Nums {
		next := map[int64]int64{}
		for sum, count := range ways {
			for _, n := range waysToRound(num, v.Den) {
				if to := sum + v.Den*n - num; -v.Den < to && to < v.Den {
					next[to] += count
				}
			}
		}
		ways = next
	}
	count := int64(0)
	for _, n := range ways {
		count += n
	}
	return count
}

// canStay reports whether a rounding of the numerators has no running error beyond a bound, if these begin with sum.
func canStay(den int64, nums []int64, sum, bound int64) bool {
	sums := []int64{sum}
	for _, num := range nums {
		var next []int64
		for _, from := range sums {
			for _, n := range waysToRound(num, den) {
				if to := from + den*n - num; -bound <= to && to <= bound && !slices.Contains(next, to) {
					next = append(next, to)
				}
			}
		}
		sums = next
	}
	return len(sums) > 0
}

// bestByBounds returns the rounding with the least greatest running error, by trying all bounds.
func bestByBounds(v impl.Values) ([]int64, int64) {
	bound := int64(0)
	for !canStay(v.Den, v.Nums, 0, bound) {
		bound++
	}
	list, sum := []int64{}, int64(0)
	for i, num := range v.Nums {
		for _, n := range waysToRound(num, v.Den) {
			to := sum + v.Den*n - num
			if max(to, -to) <= bound && canStay(v.Den, v.Nums[i+1:], to, bound) {
				list, sum = append(list, n), to
				break
			}
		}
	}
	return list, bound
}

func TestCountAndBestOfLongValues(t *testing.T) {
	for _, v := range longValues() {
		expect(t, "count "+shown(v), both(impl.CountRunning(v)), both(countByForwardSums(v), true))
		best, least := bestByBounds(v)
		expect(t, "best "+shown(v), three(impl.BestRunning(v)), three(best, least, true))
		expect(t, "it runs "+shown(v), shown(impl.IsRunning(v, best), greatestError(v, best)), shown(true, least))
	}
}

func TestBestRunningIsNoWorseThanPrefixes(t *testing.T) {
	for _, v := range append(valuesOfAllKinds(), longValues()...) {
		list, least, ok := impl.BestRunning(v)
		floors, _ := impl.PrefixFloors(v)
		nearest, _ := impl.PrefixNearest(v)
		if !ok || !impl.IsRunning(v, list) || least > greatestError(v, floors) {
			t.Errorf("best of %v: got %v and %d", v, list, least)
		}
		if impl.IsRounding(v, nearest) && least > greatestError(v, nearest) {
			t.Errorf("prefix nearest of %v has less than %d: %v", v, least, nearest)
		}
		sums, _ := impl.RunningErrors(v, list)
		expect(t, "greatest "+shown(v), both(impl.GreatestOf(sums)), both(least, true))
	}
}

func TestRunningSumsOfInvalidValuesFail(t *testing.T) {
	for _, v := range invalidValues() {
		what := shown(v)
		zeros := repeated(0, len(v.Nums))
		expect(t, "running errors "+what, both(impl.RunningErrors(v, zeros)), noList)
		expect(t, "running "+what, shown(impl.IsRunning(v, zeros), impl.IsRunning(v, v.Nums)), "false false")
		expect(t, "prefix floors "+what, both(impl.PrefixFloors(v)), noList)
		expect(t, "prefix nearest "+what, both(impl.PrefixNearest(v)), noList)
		expect(t, "count "+what, both(impl.CountRunning(v)), noNumber)
		expect(t, "best "+what, three(impl.BestRunning(v)), noBest)
	}
}
