package tests

import (
	"math"
	"slices"
	"testing"

	"loop.example/g01129/impl"
)

// The tests of this file are for promise 5: laminar groups.

// upTo returns the indexes from first to last.
func upTo(first, last int64) []int64 {
	var list []int64
	for i := first; i <= last; i++ {
		list = append(list, i)
	}
	return list
}

// sumAt returns the sum of the numbers of a list at the indexes of a group.
func sumAt(group, list []int64) int64 {
	sum := int64(0)
	for _, i := range group {
		sum += list[i]
	}
	return sum
}

// isRounded reports whether the sum of a list over a group is that of the values, rounded down or up.
func isRounded(v impl.Values, group, list []int64) bool {
	sum, num := sumAt(group, list), sumAt(group, v.Nums)
	return isFloor(sum, num, v.Den) || isCeiling(sum, num, v.Den)
}

// allGroupRoundings returns all group roundings, the lexicographically least one first.
func allGroupRoundings(v impl.Values, groups [][]int64) [][]int64 {
	all := upTo(0, int64(len(v.Nums))-1)
	return slices.DeleteFunc(allRoundings(v), func(list []int64) bool {
		for _, group := range groups {
			if !isRounded(v, group, list) {
				return true
			}
		}
		return !isRounded(v, all, list)
	})
}

// holds reports whether all indexes of one group are in another one.
func holds(group, part []int64) bool {
	for _, i := range part {
		if !slices.Contains(group, i) {
			return false
		}
	}
	return true
}

// areNested reports whether two groups have no index in common, or one is a part of the other one.
func areNested(a, b []int64) bool {
	if holds(a, b) || holds(b, a) {
		return true
	}
	for _, i := range a {
		if slices.Contains(b, i) {
			return false
		}
	}
	return true
}

// anyGroup returns some of count indexes, at least one.
func (n *numbers) anyGroup(count int64) []int64 {
	few := n.next(1, 4)
	var group []int64
	for i := range count {
		if n.next(1, 4) <= few {
			group = append(group, i)
		}
	}
	if len(group) == 0 {
		return []int64{n.next(0, count-1)}
	}
	return group
}

// laminarGroups returns some groups of values, each of which is nested with all others.
func (n *numbers) laminarGroups(count int64) [][]int64 {
	var groups [][]int64
	for range n.next(0, 40) {
		group := n.anyGroup(count)
		if len(groups) == impl.MaxGroups {
			break
		}
		if !slices.ContainsFunc(groups, func(other []int64) bool { return !areNested(group, other) }) {
			groups = append(groups, group)
		}
	}
	return groups
}

// checkGroups checks all functions of groups against all group roundings.
func checkGroups(t *testing.T, v impl.Values, groups [][]int64) {
	t.Helper()
	what := shown(v, groups)
	lists := allGroupRoundings(v, groups)
	if len(lists) == 0 {
		t.Fatalf("no group rounding of %s", what)
	}
	expect(t, "laminar "+what, shown(impl.IsLaminar(v, groups)), "true")
	expect(t, "least "+what, both(impl.GroupRounding(v, groups)), both(lists[0], true))
	for _, list := range allRoundings(v) {
		_, want := slices.BinarySearchFunc(lists, list, slices.Compare[[]int64])
		if impl.IsGroupRounding(v, groups, list) != want {
			t.Errorf("%v is a group rounding of %s: got %v", list, what, !want)
		}
	}
	for i, group := range groups {
		least, greatest := int64(math.MaxInt64), int64(math.MinInt64)
		for _, list := range lists {
			least, greatest = min(least, sumAt(group, list)), max(greatest, sumAt(group, list))
		}
		expect(t, "sums "+shown(i)+" of "+what, three(impl.GroupSums(v, groups, int64(i))), shown(least, greatest, true))
	}
	checkNoGroup(t, v, groups, -1, int64(len(groups)), math.MinInt64, math.MaxInt64)
}

// checkNoGroup checks that GroupSums fails for indexes of groups.
func checkNoGroup(t *testing.T, v impl.Values, groups [][]int64, indexes ...int64) {
	t.Helper()
	for _, i := range indexes {
		expect(t, "sums "+shown(i)+" of "+shown(v, groups), three(impl.GroupSums(v, groups, i)), noBounds)
	}
}

func TestGroupsOfAnyKind(t *testing.T) {
	rule := numbers(8)
	for range 3000 {
		v := impl.Values{Den: rule.next(1, 9)}
		count := rule.next(1, 8)
		for range count {
			v.Nums = append(v.Nums, rule.next(-20, 20))
		}
		checkGroups(t, v, rule.laminarGroups(count))
	}
}

func TestLaminarOfAnyGroups(t *testing.T) {
	rule := numbers(9)
	found := map[bool]int{}
	for range 3000 {
		count := rule.next(1, 7)
		v := impl.Values{Den: 2, Nums: repeated(1, int(count))}
		var groups [][]int64
		want := true
		for range rule.next(2, 4) {
			group := rule.anyGroup(count)
			for _, other := range groups {
				want = want && areNested(group, other)
			}
			groups = append(groups, group)
		}
		found[want]++
		expect(t, "laminar "+shown(groups), shown(impl.IsLaminar(v, groups)), shown(want))
		if !want {
			checkNoGroups(t, v, groups)
		}
	}
	if found[true] < 100 || found[false] < 100 {
		t.Errorf("too few groups of one kind: %v", found)
	}
}

// checkNoGroups checks that all functions of groups fail for all roundings and groups.
func checkNoGroups(t *testing.T, v impl.Values, groups [][]int64) {
	t.Helper()
	what := shown(v, groups)
	floors, _ := impl.FloorsOf(v)
	expect(t, "laminar "+what, shown(impl.IsLaminar(v, groups)), "false")
	expect(t, "rounding "+what, both(impl.GroupRounding(v, groups)), noList)
	for _, list := range [][]int64{nil, floors, v.Nums, repeated(0, len(v.Nums))} {
		expect(t, "is a rounding "+what, shown(impl.IsGroupRounding(v, groups, list)), "false")
	}
	checkNoGroup(t, v, groups, 0, 1, int64(len(groups))-1, int64(len(groups)))
}

func TestGroupsWithoutValues(t *testing.T) {
	for _, v := range []impl.Values{values(7), {Den: 1, Nums: []int64{}}} {
		checkGroups(t, v, nil)
		checkGroups(t, v, [][]int64{})
		for _, groups := range [][][]int64{{{}}, {nil}, {{0}}, {{-1}}} {
			checkNoGroups(t, v, groups)
		}
		expect(t, "a number", shown(impl.IsGroupRounding(v, nil, []int64{0})), "false")
	}
}

func TestNoGroups(t *testing.T) {
	v := values(2, 1, 1, 1)
	checkGroups(t, v, nil)
	expect(t, "least", both(impl.GroupRounding(v, nil)), "[0 0 1] true")
	expect(t, "all values", shown(impl.IsGroupRounding(v, nil, []int64{0, 0, 0}), impl.IsGroupRounding(v, nil, []int64{1, 0, 1}), impl.IsGroupRounding(v, nil, []int64{1, 1, 1})), "false true false")
	expect(t, "negative", both(impl.GroupRounding(values(2, -1, -1, -1), nil)), "[-1 -1 0] true")
	expect(t, "integers", both(impl.GroupRounding(values(3, 6, -9, 0), nil)), "[2 -3 0] true")
	expect(t, "one integer as the sum", both(impl.GroupRounding(values(2, 1, 1, 2), nil)), "[0 1 1] true")
}

func TestEqualGroups(t *testing.T) {
	v := values(2, 1, 1, 1, 1)
	for _, groups := range [][][]int64{{{0, 1}, {0, 1}}, {{1, 2}, {0, 1, 2, 3}, {1, 2}}, slices.Repeat([][]int64{{0, 3}}, impl.MaxGroups), slices.Repeat([][]int64{{2}}, impl.MaxGroups)} {
		checkGroups(t, v, groups)
	}
	expect(t, "pairs", both(impl.GroupRounding(v, [][]int64{{0, 1}, {0, 1}})), "[0 1 0 1] true")
	expect(t, "the sums of the last one", three(impl.GroupSums(v, [][]int64{{1}, {0, 1, 2}, {0, 1, 2}}, 2)), "1 2 true")
}

func TestNestedGroups(t *testing.T) {
	v := values(4, 1, 2, 3, 5, -6, 3)
	parts := [][]int64{{0, 1, 2, 3, 4}, {1, 2, 3}, {1, 2}, {2}, {4}, {5}}
	checkGroups(t, v, parts)
	slices.Reverse(parts)
	checkGroups(t, v, parts)
	apart := [][]int64{{0, 5}, {1, 4}, {2, 3}}
	checkGroups(t, v, apart)
	checkGroups(t, v, append(apart, []int64{0, 1, 4, 5}, []int64{0, 1, 4, 5}, []int64{5}))
}

func TestGroupsOfAllValuesAndOfOneIndex(t *testing.T) {
	v := values(3, 1, 1, 2, -2)
	all := []int64{0, 1, 2, 3}
	for _, groups := range [][][]int64{{all}, {all, all}, {{0}, {1}, {2}, {3}}, {{0}, all, {3}}, {{3}}, {all, {1, 2}}} {
		checkGroups(t, v, groups)
	}
	checkGroups(t, values(5, 3), [][]int64{{0}})
	expect(t, "one value", three(impl.GroupSums(values(5, 3), [][]int64{{0}}, 0)), "0 1 true")
	expect(t, "one integer", three(impl.GroupSums(values(5, -10), [][]int64{{0}}, 0)), "-2 -2 true")
}

func TestGroupsWhoseSumsAreIntegers(t *testing.T) {
	v := values(4, 1, 3, 2, 2, -1, 1)
	pairs := [][]int64{{0, 1}, {2, 3}, {4, 5}}
	checkGroups(t, v, pairs)
	expect(t, "least", both(impl.GroupRounding(v, pairs)), "[0 1 0 1 -1 1] true")
	for i, want := range []string{"1 1 true", "1 1 true", "0 0 true"} {
		expect(t, "sums", three(impl.GroupSums(v, pairs, int64(i))), want)
	}
	nested := [][]int64{{0, 1, 2}, {0, 1, 2, 3}}
	checkGroups(t, values(4, 1, 2, 5, 4), nested)
	expect(t, "the inner group", three(impl.GroupSums(values(4, 1, 2, 5, 4), nested, 0)), "2 2 true")
	expect(t, "integers", both(impl.GroupRounding(values(3, 6, -9, 0), [][]int64{{0, 2}, {1}})), "[2 -3 0] true")
}

func TestGroupSumsAreRoundedBothWays(t *testing.T) {
	// The sum of all values is an integer, so that each of the groups is rounded down only if another one is rounded up.
	v := values(10, 4, 2, 5, 5, -6)
	groups := [][]int64{{0, 1}, {2, 3}, {4}}
	checkGroups(t, v, groups)
	for i, want := range []string{"0 1 true", "1 1 true", "-1 0 true"} {
		expect(t, "sums", three(impl.GroupSums(v, groups, int64(i))), want)
	}
	// The parts of a group can be rounded both ways even if its own sum is an integer.
	nested := [][]int64{{0, 1}, {0}, {1}}
	checkGroups(t, values(10, 1, -1, 3), nested)
	for i, want := range []string{"0 0 true", "0 1 true", "-1 0 true"} {
		expect(t, "sums", three(impl.GroupSums(values(10, 1, -1, 3), nested, int64(i))), want)
	}
}

func TestMaxGroups(t *testing.T) {
	v := values(3, 1, 1, 1, 2, 2, 2, -1, -1)
	groups := [][]int64{{0, 1, 2, 3}, {4, 5, 6, 7}, {0, 1}, {2, 3}, {4, 5}, {6, 7}, {0}, {1}, {3}, {5}, {7}, {0, 1, 2, 3, 4, 5, 6, 7}}
	checkGroups(t, v, groups)
	expect(t, "first", three(impl.GroupSums(v, groups, 0)), "1 2 true")
	expect(t, "last", three(impl.GroupSums(v, groups, impl.MaxGroups-1)), "2 3 true")
	checkNoGroups(t, v, append(groups, []int64{2}))
	checkNoGroups(t, v, append(groups, groups[0]))
	checkNoGroups(t, v, slices.Repeat([][]int64{{1}}, impl.MaxGroups+1))
}

func TestGroupsOfMaxItems(t *testing.T) {
	v := values(2, repeated(1, 40)...)
	var pairs [][]int64
	for i := range int64(impl.MaxGroups) {
		pairs = append(pairs, []int64{i, 39 - i})
	}
	want := append(append(repeated(0, 12), repeated(0, 8)...), repeated(1, 20)...)
	expect(t, "pairs", both(impl.GroupRounding(v, pairs)), both(want, true))
	expect(t, "pairs", shown(impl.IsGroupRounding(v, pairs, want), impl.IsGroupRounding(v, pairs, append(repeated(1, 20), repeated(0, 20)...)), impl.IsGroupRounding(v, pairs, repeated(1, 40))), "true true false")
	expect(t, "last value", both(impl.GroupRounding(v, [][]int64{{39}, {0, 39}, {0, 1, 39}})), both(append(repeated(0, 20), repeated(1, 20)...), true))
	expect(t, "first half", three(impl.GroupSums(v, [][]int64{{39}, upTo(0, 18), upTo(0, 19)}, 1)), "9 10 true")
	big := values(999, repeated(-impl.MaxNum, 40)...)
	checkNoGroup(t, big, nil, 0)
	expect(t, "greatest numbers", three(impl.GroupSums(big, [][]int64{upTo(0, 39), upTo(0, 19)}, 0)), "-40041 -40040 true")
}

// chainRoundings returns the sums that all values up to each index can have in group roundings, whose groups are the first values up to some indexes,
// if the values from there on go on to the end.
func chainRoundings(v impl.Values, ends []int64) []map[int64]bool {
	sums := []map[int64]bool{{0: true}}
	num := int64(0)
	for i := range v.Nums {
		num += v.Nums[i]
		next := map[int64]bool{}
		for from := range sums[i] {
			for _, n := range waysToRound(v.Nums[i], v.Den) {
				if !slices.Contains(ends, int64(i)) || isFloor(from+n, num, v.Den) || isCeiling(from+n, num, v.Den) {
					next[from+n] = true
				}
			}
		}
		sums = append(sums, next)
	}
	for i := len(v.Nums) - 1; i >= 0; i-- {
		for from := range sums[i] {
			if !slices.ContainsFunc(waysToRound(v.Nums[i], v.Den), func(n int64) bool { return sums[i+1][from+n] }) {
				delete(sums[i], from)
			}
		}
	}
	return sums
}

func TestChainsOfGroupsOfMaxItems(t *testing.T) {
	rule := numbers(10)
	for _, v := range append(longValues(), mixedLongValues()...) {
		ends := []int64{39}
		for range 11 {
			ends = append(ends, rule.next(0, 39))
		}
		var groups [][]int64
		for _, end := range ends {
			groups = append(groups, upTo(0, end))
		}
		sums := chainRoundings(v, ends)
		var want []int64
		sum := int64(0)
		for i, num := range v.Nums {
			for _, n := range waysToRound(num, v.Den) {
				if sums[i+1][sum+n] {
					want, sum = append(want, n), sum+n
					break
				}
			}
		}
		expect(t, "least "+shown(v, ends), both(impl.GroupRounding(v, groups)), both(want, true))
		expect(t, "it is one "+shown(v, ends), shown(impl.IsGroupRounding(v, groups, want)), "true")
		for i, end := range ends {
			least, greatest := int64(math.MaxInt64), int64(math.MinInt64)
			for sum := range sums[end+1] {
				least, greatest = min(least, sum), max(greatest, sum)
			}
			expect(t, "sums "+shown(v, ends, end), three(impl.GroupSums(v, groups, int64(i))), shown(least, greatest, true))
		}
	}
}

func TestIsGroupRoundingOfOtherLists(t *testing.T) {
	v := values(2, 1, 2, -3)
	groups := [][]int64{{0, 2}}
	expect(t, "roundings", shown(impl.IsGroupRounding(v, groups, []int64{0, 1, -1}), impl.IsGroupRounding(v, groups, []int64{1, 1, -2}), impl.IsGroupRounding(v, groups, []int64{0, 1, -2})), "true true false")
	// The sums of all these lists are right, but no list is a rounding.
	for _, list := range [][]int64{{1, 0, -1}, {0, 0, 0}, {2, 1, -3}, {-1, 1, 0}, {math.MaxInt64, 1, math.MinInt64}} {
		expect(t, "no rounding "+shown(list), shown(impl.IsGroupRounding(v, groups, list)), "false")
	}
	for _, list := range [][]int64{nil, {}, {0}, {0, 1}, {0, 1, -1, 0}, repeated(0, 41)} {
		expect(t, "length "+shown(list), shown(impl.IsGroupRounding(v, groups, list)), "false")
	}
}

// wrongGroups are lists of indexes of three values that are no groups, or not laminar ones.
func wrongGroups() [][][]int64 {
	return [][][]int64{
		{{}}, {nil}, {{0}, {}}, {{}, {0}}, {{0, 1}, nil}, {{3}}, {{-1}}, {{0, 3}}, {{-1, 0}}, {{0, 1, 2, 3}}, {{1, 0}}, {{0, 0}}, {{0, 1, 1}}, {{2, 1, 0}}, {{0}, {0, 2, 1}},
		{{math.MinInt64}}, {{math.MaxInt64}}, {{0, math.MaxInt64}}, {{64}}, {{0, 64}}, {{-64}}, {{0, 1, 2}, {1 << 32}},
		{{0, 1}, {1, 2}}, {{1, 2}, {0, 1}}, {{0, 1}, {0, 2}}, {{0, 1}, {0, 1, 2}, {1, 2}}, {{0, 2}, {1}, {0, 1}}, {repeated(0, 3000)},
		slices.Repeat([][]int64{{0}}, impl.MaxGroups+1), slices.Repeat([][]int64{nil}, impl.MaxGroups+1), slices.Repeat([][]int64{{0, 1, 2}}, 3000),
	}
}

func TestWrongGroupsFail(t *testing.T) {
	for _, groups := range wrongGroups() {
		checkNoGroups(t, values(2, 1, 1, 1), groups)
		checkNoGroups(t, values(1, 1, 2, 3), groups)
	}
	long := impl.Values{Den: 2, Nums: repeated(1, 40)}
	for _, groups := range [][][]int64{{{40}}, {upTo(0, 40)}, {{63}}, {upTo(0, 20), upTo(20, 39)}, {{39, 0}}} {
		checkNoGroups(t, long, groups)
	}
}

func TestGroupsOfInvalidValuesFail(t *testing.T) {
	for _, v := range invalidValues() {
		for _, groups := range [][][]int64{nil, {}, {{0}}, {{0}, {0}}} {
			checkNoGroups(t, v, groups)
		}
	}
}

func TestPairsOfHalves(t *testing.T) {
	v := values(2, 1, 1, 1, 1)
	groups := [][]int64{{0, 1}, {2, 3}}
	expect(t, "rounding", both(impl.GroupRounding(v, groups)), "[0 1 0 1] true")
	expect(t, "sums", three(impl.GroupSums(v, groups, 0))+three(impl.GroupSums(v, groups, 1)), "1 1 true1 1 true")
	expect(t, "is one", shown(impl.IsGroupRounding(v, groups, []int64{1, 0, 0, 1}), impl.IsGroupRounding(v, groups, []int64{1, 1, 0, 0})), "true false")
}
