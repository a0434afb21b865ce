package tests

import (
	"math"
	"slices"
	"strings"
	"testing"

	"loop.example/g01129/impl"
)

// The tests of this file are for promise 1: calls return, change no argument, and repeat their results.

// spare is what stands in the unused capacity of a list that guarded makes.
const spare = 987654321

// guarded returns a copy of a list that has unused capacity, and a function that tells whether any of it was changed.
func guarded(list []int64) ([]int64, func() bool) {
	if list == nil {
		return nil, func() bool { return true }
	}
	memory := append(slices.Clone(list), spare, spare, spare)
	before := slices.Clone(memory)
	return memory[:len(list)], func() bool { return slices.Equal(memory, before) }
}

// anyLists are lists of all kinds: valid ones and others.
func anyLists() [][]int64 {
	lists := [][]int64{
		nil, {}, {0}, {1}, {-1}, {1, 1}, {0, 0, 0}, {3, 5}, extremes(), {math.MinInt64}, {math.MaxInt64, math.MinInt64},
		repeated(7, 40), repeated(7, 41), repeated(math.MaxInt64, 40), repeated(math.MinInt64, 41), repeated(1, 3000),
	}
	for _, v := range append(validValues(), invalidValues()...) {
		lists = append(lists, v.Nums)
	}
	return lists
}

// anyTexts are texts of all kinds: valid ones and others.
func anyTexts() []string {
	texts := []string{"", "a", "leap", "0", "-7", "1,2", "4:3,5", "1:-", "\x00", "\xff\xfe", "é", "١", strings.Repeat("x", 5000), strings.Repeat("9", 5000), strings.Repeat("1,", 5000), strings.Repeat(":", 5000)}
	return append(texts, wrongListTexts()...)
}

// twice calls f two times and reports results that are not equal.
func twice(t *testing.T, what string, f func() string) {
	t.Helper()
	if first, second := f(), f(); first != second {
		t.Errorf("%s: first %s, then %s", what, first, second)
	}
}

func TestBasicsOfNumbersReturnAndRepeat(t *testing.T) {
	for _, a := range extremes() {
		twice(t, "Decimal", func() string { return impl.Decimal(a) })
		for _, b := range extremes() {
			twice(t, "divisions", func() string {
				return both(impl.DivFloor(a, b)) + both(impl.DivCeiling(a, b)) + both(impl.DivNearest(a, b)) + both(impl.CompareRatios(a, b, b, a)) + both(impl.CompareRatios(a, b, a, b))
			})
		}
	}
}

func TestBasicsOfTextsReturnAndRepeat(t *testing.T) {
	for _, s := range anyTexts() {
		twice(t, "texts", func() string {
			return shown(impl.IsName(s)) + both(impl.ReadDecimal(s)) + both(impl.ReadList(s)) + both(impl.ReadValues(s))
		})
		for _, start := range extremes() {
			twice(t, "CheckOf", func() string { return both(impl.CheckOf(start, s)) })
		}
	}
}

func TestBasicsOfListsReturnRepeatAndChangeNothing(t *testing.T) {
	for _, nums := range anyLists() {
		list, isSame := guarded(nums)
		twice(t, "ListText", func() string { return both(impl.ListText(list)) })
		if !isSame() {
			t.Errorf("ListText changes %v", nums)
		}
		for _, den := range extremes() {
			v := impl.Values{Den: den, Nums: list}
			twice(t, "values", func() string {
				return shown(impl.ValidValues(v)) + both(impl.FloorsOf(v)) + both(impl.CeilingsOf(v)) + both(impl.NearestOf(v)) + both(impl.SumOf(v)) + both(impl.ValuesText(v))
			})
			if !isSame() || v.Den != den {
				t.Errorf("a function of values changes %d and %v", den, nums)
			}
		}
	}
}

func TestBasicsOfTwoListsReturnRepeatAndChangeNothing(t *testing.T) {
	for _, nums := range anyLists() {
		for _, other := range anyLists() {
			list, isSameList := guarded(nums)
			ints, isSameInts := guarded(other)
			v := impl.Values{Den: 3, Nums: list}
			twice(t, "two lists", func() string { return shown(impl.IsRounding(v, ints)) + both(impl.ErrorsOf(v, ints)) })
			if !isSameList() || !isSameInts() {
				t.Errorf("a function of two lists changes %v or %v", nums, other)
			}
		}
	}
}

// overwritten sets all of a list and its unused capacity to something else.
func overwritten(list []int64) {
	all := list[:cap(list)]
	for i := range all {
		all[i] = spare
	}
}

func TestBasicsReturnNewLists(t *testing.T) {
	v := values(4, 3, 5, -6)
	list := []int64{1, 1, -2}
	for name, f := range map[string]func() ([]int64, bool){
		"FloorsOf":         func() ([]int64, bool) { return impl.FloorsOf(v) },
		"CeilingsOf":       func() ([]int64, bool) { return impl.CeilingsOf(v) },
		"NearestOf":        func() ([]int64, bool) { return impl.NearestOf(v) },
		"ErrorsOf":         func() ([]int64, bool) { return impl.ErrorsOf(v, list) },
		"ReadList":         func() ([]int64, bool) { return impl.ReadList("1,2,3") },
		"ReadList of none": func() ([]int64, bool) { return impl.ReadList("-") },
		"ReadValues":       func() ([]int64, bool) { r, ok := impl.ReadValues("4:3,5,-6"); return r.Nums, ok },
	} {
		first, ok := f()
		second, _ := f()
		kept := both(second, ok)
		overwritten(first)
		expect(t, name+" after its first result is overwritten", both(second, ok), kept)
		expect(t, name+" once more", both(f()), kept)
		expect(t, name+" and its arguments", shown(v, list), "{4 [3 5 -6]} [1 1 -2]")
	}
}

func TestNilAndEmptyListsAreTheSame(t *testing.T) {
	for _, den := range extremes() {
		none, empty := impl.Values{Den: den}, impl.Values{Den: den, Nums: []int64{}}
		results := func(v impl.Values, list []int64) string {
			return shown(impl.ValidValues(v), impl.IsRounding(v, list)) + both(impl.FloorsOf(v)) + both(impl.CeilingsOf(v)) + both(impl.NearestOf(v)) +
				both(impl.ErrorsOf(v, list)) + both(impl.SumOf(v)) + both(impl.ListText(list)) + both(impl.ValuesText(v))
		}
		want := results(none, nil)
		expect(t, "nil and empty", results(none, []int64{}), want)
		expect(t, "empty and nil", results(empty, nil), want)
		expect(t, "empty and empty", results(empty, []int64{}), want)
	}
}
