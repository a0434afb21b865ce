package tests

import (
	"math"
	"slices"
	"testing"

	"loop.example/g01129/impl"
)

// The tests of this file are for promise 1 and the functions of chapter 4.

// anyNorms are norms, and numbers that are none.
func anyNorms() []int64 { return append(norms(), noNorms()...) }

// guardedGroups returns a copy of groups that have unused capacity, and a function that tells whether any of it was changed.
func guardedGroups(groups [][]int64) ([][]int64, func() bool) {
	if groups == nil {
		return nil, func() bool { return true }
	}
	var memory [][]int64
	var same []func() bool
	for _, group := range append(slices.Clone(groups), []int64{spare}, nil) {
		list, isSame := guarded(group)
		memory, same = append(memory, list), append(same, isSame)
	}
	before := slices.Clone(memory)
	return memory[:len(groups)], func() bool {
		for i, list := range memory {
			if !same[i]() || len(list) != len(before[i]) || len(list) > 0 && &list[0] != &before[i][0] {
				return false
			}
		}
		return true
	}
}

// anyGroups are groups of all kinds: laminar ones and others.
func anyGroups() [][][]int64 {
	groups := [][][]int64{
		nil, {}, {{0}}, {{0, 1}}, {{0, 1, 2}, {1}}, {{2}, {0, 1, 2}, {0, 1}, {0, 1}}, {upTo(0, 39)}, {upTo(0, 19), upTo(20, 39), upTo(5, 9), {39}},
		slices.Repeat([][]int64{{1, 2}}, impl.MaxGroups), anyLists(),
	}
	return append(groups, wrongGroups()...)
}

func TestNormsReturnRepeatAndChangeNothing(t *testing.T) {
	for _, nums := range anyLists() {
		list, isSame := guarded(nums)
		for _, den := range extremes() {
			v := impl.Values{Den: den, Nums: list}
			low, high, _ := impl.SumBounds(v)
			for _, norm := range anyNorms() {
				for _, sum := range []int64{low - 1, low, (low + high) / 2, high, high + 1, math.MinInt64, math.MaxInt64} {
					twice(t, "best", func() string { return both(impl.BestRounding(v, sum, norm)) + both(impl.CountBest(v, sum, norm)) })
				}
			}
			twice(t, "bounds", func() string { return three(impl.SumBounds(v)) })
			if !isSame() || v.Den != den {
				t.Errorf("a function of values changes %d and %v", den, nums)
			}
		}
		for _, places := range extremes() {
			twice(t, "percents", func() string { return both(impl.PercentsOf(list, places)) })
		}
		if !isSame() {
			t.Errorf("PercentsOf changes %v", nums)
		}
	}
}

func TestErrorOfReturnsRepeatsAndChangesNothing(t *testing.T) {
	for _, nums := range anyLists() {
		for _, other := range anyLists() {
			list, isSameList := guarded(nums)
			ints, isSameInts := guarded(other)
			for _, norm := range anyNorms() {
				v := impl.Values{Den: 1, Nums: list}
				twice(t, "ErrorOf", func() string { return both(impl.ErrorOf(v, ints, norm)) })
			}
			if !isSameList() || !isSameInts() {
				t.Errorf("ErrorOf changes %v or %v", nums, other)
			}
		}
	}
}

func TestGroupsReturnRepeatAndChangeNothing(t *testing.T) {
	for _, nums := range anyLists() {
		for _, someGroups := range anyGroups() {
			list, isSameList := guarded(nums)
			groups, isSameGroups := guardedGroups(someGroups)
			for _, den := range []int64{math.MinInt64, 0, 1, 2, 7, impl.MaxDen, impl.MaxDen + 1, math.MaxInt64} {
				v := impl.Values{Den: den, Nums: list}
				twice(t, "groups", func() string {
					return shown(impl.IsLaminar(v, groups), impl.IsGroupRounding(v, groups, list)) + both(impl.GroupRounding(v, groups))
				})
				for _, group := range []int64{math.MinInt64, -1, 0, 1, int64(len(groups)) - 1, int64(len(groups)), math.MaxInt64} {
					twice(t, "sums", func() string { return three(impl.GroupSums(v, groups, group)) })
				}
			}
			if !isSameList() || !isSameGroups() {
				t.Errorf("a function of groups changes %v or %v", nums, someGroups)
			}
		}
	}
}

func TestIsGroupRoundingReturnsRepeatsAndChangesNothing(t *testing.T) {
	groups := [][]int64{{0, 1}, {2}, {0, 1}}
	for _, nums := range anyLists() {
		for _, other := range anyLists() {
			list, isSameList := guarded(nums)
			ints, isSameInts := guarded(other)
			v := impl.Values{Den: 3, Nums: list}
			twice(t, "two lists", func() string {
				return shown(impl.IsGroupRounding(v, groups, ints), impl.IsGroupRounding(v, nil, ints))
			})
			if !isSameList() || !isSameInts() {
				t.Errorf("IsGroupRounding changes %v or %v", nums, other)
			}
		}
	}
}

func TestSumsReturnNewLists(t *testing.T) {
	v := values(4, 3, 5, -6, 8)
	exact := values(1, 3, 5, -6)
	groups := [][]int64{{0, 1}, {2, 3}}
	counts := []int64{1, 2, 4}
	checkNewLists(t, func() string { return shown(v, exact, groups, counts) }, map[string]func() ([]int64, []int64, bool){
		"BestRounding":              func() ([]int64, []int64, bool) { r, ok := impl.BestRounding(v, 2, impl.NormSum); return r, nil, ok },
		"BestRounding by most":      func() ([]int64, []int64, bool) { r, ok := impl.BestRounding(v, 2, impl.NormMost); return r, nil, ok },
		"BestRounding of integers":  func() ([]int64, []int64, bool) { r, ok := impl.BestRounding(exact, 2, impl.NormSum); return r, nil, ok },
		"GroupRounding":             func() ([]int64, []int64, bool) { r, ok := impl.GroupRounding(v, groups); return r, nil, ok },
		"GroupRounding of integers": func() ([]int64, []int64, bool) { r, ok := impl.GroupRounding(exact, nil); return r, nil, ok },
		"PercentsOf":                func() ([]int64, []int64, bool) { r, ok := impl.PercentsOf(counts, 0); return r, nil, ok },
		"PercentsOf one":            func() ([]int64, []int64, bool) { r, ok := impl.PercentsOf([]int64{100}, 0); return r, nil, ok },
	})
}

func TestSumsOfNilAndEmptyListsAreTheSame(t *testing.T) {
	for _, den := range extremes() {
		for _, norm := range anyNorms() {
			results := func(none []int64, groups [][]int64) string {
				v := impl.Values{Den: den, Nums: none}
				return both(impl.ErrorOf(v, none, norm)) + three(impl.SumBounds(v)) + both(impl.BestRounding(v, 0, norm)) + both(impl.CountBest(v, 0, norm)) +
					shown(impl.IsLaminar(v, groups), impl.IsLaminar(v, [][]int64{none}), impl.IsGroupRounding(v, groups, none)) +
					both(impl.GroupRounding(v, groups)) + three(impl.GroupSums(v, groups, 0)) + both(impl.PercentsOf(none, 0))
			}
			want := results(nil, nil)
			expect(t, "nil and empty", results(nil, [][]int64{}), want)
			expect(t, "empty and nil", results([]int64{}, nil), want)
			expect(t, "empty and empty", results([]int64{}, [][]int64{}), want)
		}
	}
}
