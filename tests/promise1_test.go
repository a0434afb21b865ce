package tests

import (
	"math"
	"runtime"
	"slices"
	"strings"
	"testing"

	"loop.example/g01129/impl"
)

// The tests of this file are for promise 1: calls return, change no argument, and repeat their results.

// spare is what stands in the unused capacity of a list that guarded makes.
const spare = 987654321

// guarded returns a copy of a list that has unused capacity, and a function that tells whether any of it was changed.
func guarded(list []int64) ([]int64, func() bool) {
	if list == nil {
		return nil, func() bool { return true }
	}
	memory := append(slices.Clone(list), spare, spare, spare)
	before := slices.Clone(memory)
	return memory[:len(list)], func() bool { return slices.Equal(memory, before) }
}

// anyLists are lists of all kinds: valid ones and others.
func anyLists() [][]int64 {
	lists := [][]int64{
		nil, {}, {0}, {1}, {-1}, {1, 1}, {0, 0, 0}, {3, 5}, extremes(), {math.MinInt64}, {math.MaxInt64, math.MinInt64},
		repeated(7, 40), repeated(7, 41), repeated(math.MaxInt64, 40), repeated(math.MinInt64, 41), repeated(1, 3000),
	}
	for _, v := range append(validValues(), invalidValues()...) {
		lists = append(lists, v.Nums)
	}
	return lists
}

// anyTexts are texts of all kinds: valid ones and others.
func anyTexts() []string {
	texts := []string{"", "a", "leap", "0", "-7", "1,2", "4:3,5", "1:-", "\x00", "\xff\xfe", "é", "١", strings.Repeat("x", 5000), strings.Repeat("9", 5000), strings.Repeat("1,", 5000), strings.Repeat(":", 5000)}
	return append(texts, wrongListTexts()...)
}

// twice calls f two times and reports results that are not equal.
func twice(t *testing.T, what string, f func() string) {
	t.Helper()
	if first, second := f(), f(); first != second {
		t.Errorf("%s: first %s, then %s", what, first, second)
	}
}

func TestBasicsOfNumbersReturnAndRepeat(t *testing.T) {
	for _, a := range extremes() {
		twice(t, "Decimal", func() string { return impl.Decimal(a) })
		for _, b := range extremes() {
			twice(t, "divisions", func() string {
				return both(impl.DivFloor(a, b)) + both(impl.DivCeiling(a, b)) + both(impl.DivNearest(a, b)) + both(impl.CompareRatios(a, b, b, a)) + both(impl.CompareRatios(a, b, a, b))
			})
		}
	}
}

func TestBasicsOfTextsReturnAndRepeat(t *testing.T) {
	for _, s := range anyTexts() {
		twice(t, "texts", func() string {
			return shown(impl.IsName(s)) + both(impl.ReadDecimal(s)) + both(impl.ReadList(s)) + both(impl.ReadValues(s))
		})
		for _, start := range extremes() {
			twice(t, "CheckOf", func() string { return both(impl.CheckOf(start, s)) })
		}
	}
}

func TestBasicsOfListsReturnRepeatAndChangeNothing(t *testing.T) {
	for _, nums := range anyLists() {
		list, isSame := guarded(nums)
		twice(t, "ListText", func() string { return both(impl.ListText(list)) })
		if !isSame() {
			t.Errorf("ListText changes %v", nums)
		}
		for _, den := range extremes() {
			v := impl.Values{Den: den, Nums: list}
			twice(t, "values", func() string {
				return shown(impl.ValidValues(v)) + both(impl.FloorsOf(v)) + both(impl.CeilingsOf(v)) + both(impl.NearestOf(v)) + both(impl.SumOf(v)) + both(impl.ValuesText(v))
			})
			if !isSame() || v.Den != den {
				t.Errorf("a function of values changes %d and %v", den, nums)
			}
		}
	}
}

func TestBasicsOfTwoListsReturnRepeatAndChangeNothing(t *testing.T) {
	for _, nums := range anyLists() {
		for _, other := range anyLists() {
			list, isSameList := guarded(nums)
			ints, isSameInts := guarded(other)
			v := impl.Values{Den: 3, Nums: list}
			twice(t, "two lists", func() string { return shown(impl.IsRounding(v, ints)) + both(impl.ErrorsOf(v, ints)) })
			if !isSameList() || !isSameInts() {
				t.Errorf("a function of two lists changes %v or %v", nums, other)
			}
		}
	}
}

// overwritten sets all of a list and its unused capacity to something else.
func overwritten(list []int64) {
	all := list[:cap(list)]
	for i := range all {
		all[i] = spare
	}
}

func TestBasicsReturnNewLists(t *testing.T) {
	v := values(4, 3, 5, -6)
	list := []int64{1, 1, -2}
	for name, f := range map[string]func() ([]int64, bool){
		"FloorsOf":         func() ([]int64, bool) { return impl.FloorsOf(v) },
		"CeilingsOf":       func() ([]int64, bool) { return impl.CeilingsOf(v) },
		"NearestOf":        func() ([]int64, bool) { return impl.NearestOf(v) },
		"ErrorsOf":         func() ([]int64, bool) { return impl.ErrorsOf(v, list) },
		"ReadList":         func() ([]int64, bool) { return impl.ReadList("1,2,3") },
		"ReadList of none": func() ([]int64, bool) { return impl.ReadList("-") },
		"ReadValues":       func() ([]int64, bool) { r, ok := impl.ReadValues("4:3,5,-6"); return r.Nums, ok },
	} {
		first, ok := f()
		second, _ := f()
		kept := both(second, ok)
		overwritten(first)
		expect(t, name+" after its first result is overwritten", both(second, ok), kept)
		expect(t, name+" once more", both(f()), kept)
		expect(t, name+" and its arguments", shown(v, list), "{4 [3 5 -6]} [1 1 -2]")
	}
}

func TestNilAndEmptyListsAreTheSame(t *testing.T) {
	for _, den := range extremes() {
		none, empty := impl.Values{Den: den}, impl.Values{Den: den, Nums: []int64{}}
		results := func(v impl.Values, list []int64) string {
			return shown(impl.ValidValues(v), impl.IsRounding(v, list)) + both(impl.FloorsOf(v)) + both(impl.CeilingsOf(v)) + both(impl.NearestOf(v)) +
				both(impl.ErrorsOf(v, list)) + both(impl.SumOf(v)) + both(impl.ListText(list)) + both(impl.ValuesText(v))
		}
		want := results(none, nil)
		expect(t, "nil and empty", results(none, []int64{}), want)
		expect(t, "empty and nil", results(empty, nil), want)
		expect(t, "empty and empty", results(empty, []int64{}), want)
	}
}

// anyNumbers are numbers of methods, seats, parties and goals, valid ones and others.
func anyNumbers() []int64 {
	return []int64{math.MinInt64, -1, 0, 1, 2, 3, 4, 11, 12, 13, 50, 99, 100, 101, math.MaxInt64}
}

// anyVotes are votes of all kinds, and lists that are none.
func anyVotes() [][]int64 {
	return append(append(votesOfAllKinds(), invalidVotes()...), anyLists()...)
}

func TestSeatsOfOneListReturnRepeatAndChangeNothing(t *testing.T) {
	for _, list := range anyVotes() {
		votes, isSame := guarded(list)
		twice(t, "votes", func() string { return shown(impl.ValidVotes(votes)) + three(impl.FirstLoss(votes)) })
		for _, n := range anyNumbers() {
			twice(t, "quotas", func() string { return three(impl.QuotasOf(votes, n)) + both(impl.RemainderSeats(votes, n)) })
			for _, method := range anyNumbers() {
				twice(t, "methods", func() string {
					return both(impl.SeatsBy(method, votes, n)) + tie(impl.TiedSeats(method, votes, n))
				})
			}
		}
		if !isSame() {
			t.Errorf("a function of votes changes %v", list)
		}
	}
}

func TestFewestForReturnsRepeatsAndChangesNothing(t *testing.T) {
	for _, list := range [][]int64{nil, {}, {0}, {7}, {0, 5}, {6, 6, 2}, {-1, 5}, {5, math.MaxInt64}, repeated(impl.MaxVotes, 12), repeated(1, 13), repeated(0, 12)} {
		votes, isSame := guarded(list)
		for _, method := range anyNumbers() {
			for _, party := range anyNumbers() {
				for _, goal := range []int64{math.MinInt64, -1, 0, 1, 50, 100, 101, math.MaxInt64} {
					twice(t, "FewestFor", func() string { return both(impl.FewestFor(method, votes, party, goal)) })
				}
			}
		}
		if !isSame() {
			t.Errorf("FewestFor changes %v", list)
		}
	}
}

func TestSeatsOfTwoListsReturnRepeatAndChangeNothing(t *testing.T) {
	for _, first := range anyVotes() {
		for _, second := range append(wrongSeats(), anyVotes()...) {
			votes, isSameVotes := guarded(first)
			list, isSameList := guarded(second)
			twice(t, "OutsideQuotas", func() string { return both(impl.OutsideQuotas(votes, list)) })
			for _, method := range []int64{-1, 0, 1, 2, 3, 4} {
				twice(t, "IsSeatsBy", func() string { return shown(impl.IsSeatsBy(method, votes, list)) })
			}
			if !isSameVotes() || !isSameList() {
				t.Errorf("a function of votes and a list changes %v or %v", first, second)
			}
		}
	}
}

// checkNewLists overwrites the lists that calls return, and checks that this changes neither other results nor the arguments.
func checkNewLists(t *testing.T, arguments func() string, calls map[string]func() ([]int64, []int64, bool)) {
	t.Helper()
	given := arguments()
	for name, f := range calls {
		first, other, ok := f()
		second, third, _ := f()
		kept, keptOther := shown(second, third, ok), shown(other)
		overwritten(first)
		expect(t, name+" after its first result is overwritten", shown(second, third, ok), kept)
		expect(t, name+" and its other list", shown(other), keptOther)
		overwritten(other)
		expect(t, name+" once more", three(f()), kept)
		expect(t, name+" and its arguments", arguments(), given)
	}
}

func TestSeatsReturnNewLists(t *testing.T) {
	votes := []int64{6, 6, 2}
	list := []int64{5, 2, 0}
	checkNewLists(t, func() string { return shown(votes, list) }, map[string]func() ([]int64, []int64, bool){
		"SeatsBy":        func() ([]int64, []int64, bool) { r, ok := impl.SeatsBy(hill, votes, 10); return r, nil, ok },
		"SeatsBy of 0":   func() ([]int64, []int64, bool) { r, ok := impl.SeatsBy(adams, votes, 0); return r, nil, ok },
		"TiedSeats":      func() ([]int64, []int64, bool) { r, _, ok := impl.TiedSeats(webster, votes, 2); return r, nil, ok },
		"QuotasOf":       func() ([]int64, []int64, bool) { return impl.QuotasOf(votes, 7) },
		"QuotasOf of 10": func() ([]int64, []int64, bool) { return impl.QuotasOf(votes, 10) },
		"RemainderSeats": func() ([]int64, []int64, bool) { r, ok := impl.RemainderSeats(votes, 10); return r, nil, ok },
		"OutsideQuotas":  func() ([]int64, []int64, bool) { r, ok := impl.OutsideQuotas(votes, list); return r, nil, ok },
	})
}

func TestRunningSumsReturnRepeatAndChangeNothing(t *testing.T) {
	for _, nums := range anyLists() {
		list, isSame := guarded(nums)
		for _, den := range extremes() {
			v := impl.Values{Den: den, Nums: list}
			twice(t, "running sums", func() string {
				return both(impl.PrefixFloors(v)) + both(impl.PrefixNearest(v)) + both(impl.CountRunning(v)) + three(impl.BestRunning(v))
			})
			if !isSame() || v.Den != den {
				t.Errorf("a function of running sums changes %d and %v", den, nums)
			}
		}
		for _, other := range anyLists() {
			ints, isSameInts := guarded(other)
			v := impl.Values{Den: 3, Nums: list}
			twice(t, "two lists", func() string { return both(impl.RunningErrors(v, ints)) + shown(impl.IsRunning(v, ints)) })
			if !isSame() || !isSameInts() {
				t.Errorf("a function of two lists changes %v or %v", nums, other)
			}
		}
	}
}

func TestFeedbackReturnsRepeatsAndChangesNothing(t *testing.T) {
	for _, nums := range anyLists() {
		list, isSame := guarded(nums)
		for _, den := range []int64{math.MinInt64, -1, 0, 1, 2, 7, impl.MaxDen, impl.MaxDen + 1, math.MaxInt64} {
			v := impl.Values{Den: den, Nums: list}
			for _, r := range append(ranges(), noRanges()...) {
				twice(t, "feedback", func() string { return three(impl.FeedbackOf(v, r[0], r[1])) + three(impl.SecondOf(v, r[0], r[1])) })
			}
			if !isSame() || v.Den != den {
				t.Errorf("feedback changes %d and %v", den, nums)
			}
		}
		for _, size := range extremes() {
			twice(t, "lists", func() string { return both(impl.BlockSums(list, size)) + both(impl.GreatestOf(list)) })
		}
		if !isSame() {
			t.Errorf("BlockSums or GreatestOf changes %v", nums)
		}
	}
}

func TestConstantWordReturnsAndRepeats(t *testing.T) {
	for _, a := range extremes() {
		for _, den := range extremes() {
			for _, count := range append(extremes(), impl.MaxWord-1, impl.MaxWord, impl.MaxWord+1) {
				twice(t, "ConstantWord", func() string { return both(impl.ConstantWord(a, den, count)) })
			}
		}
	}
}

func TestRunningSumsAndFeedbackReturnNewLists(t *testing.T) {
	v := values(4, 3, 5, -6, 8)
	list := []int64{1, 1, -2, 2}
	checkNewLists(t, func() string { return shown(v, list) }, map[string]func() ([]int64, []int64, bool){
		"RunningErrors":  func() ([]int64, []int64, bool) { r, ok := impl.RunningErrors(v, list); return r, nil, ok },
		"PrefixFloors":   func() ([]int64, []int64, bool) { r, ok := impl.PrefixFloors(v); return r, nil, ok },
		"PrefixNearest":  func() ([]int64, []int64, bool) { r, ok := impl.PrefixNearest(v); return r, nil, ok },
		"BestRunning":    func() ([]int64, []int64, bool) { r, _, ok := impl.BestRunning(v); return r, nil, ok },
		"FeedbackOf":     func() ([]int64, []int64, bool) { return impl.FeedbackOf(v, -1, 1) },
		"SecondOf":       func() ([]int64, []int64, bool) { return impl.SecondOf(v, -1, 1) },
		"BlockSums":      func() ([]int64, []int64, bool) { r, ok := impl.BlockSums(list, 2); return r, nil, ok },
		"BlockSums of 1": func() ([]int64, []int64, bool) { r, ok := impl.BlockSums(list, 1); return r, nil, ok },
	})
}

func TestFeedbackLeavesNothingRunning(t *testing.T) {
	const calls = 1000
	before := runtime.NumGoroutine()
	for range calls {
		impl.FeedbackOf(values(2, 1, 1, 1), 0, 1)
		impl.SecondOf(values(1000, repeated(impl.MaxNum, 40)...), -1000, -1000)
		impl.SecondOf(values(0, 1, 1, 1), 0, 1)
	}
	if behind := runtime.NumGoroutine(); behind > before+calls/2 {
		t.Errorf("goroutines: %d before, %d behind", before, behind)
	}
}

func TestRunningSumsOfNilAndEmptyListsAreTheSame(t *testing.T) {
	for _, den := range extremes() {
		results := func(nums, list []int64) string {
			v := impl.Values{Den: den, Nums: nums}
			return both(impl.RunningErrors(v, list)) + shown(impl.IsRunning(v, list)) + both(impl.PrefixFloors(v)) + both(impl.PrefixNearest(v)) +
				both(impl.CountRunning(v)) + three(impl.BestRunning(v)) + three(impl.FeedbackOf(v, 0, 1)) + three(impl.SecondOf(v, 0, 1)) +
				both(impl.GreatestOf(list)) + both(impl.BlockSums(list, den))
		}
		want := results(nil, nil)
		expect(t, "nil and empty", results(nil, []int64{}), want)
		expect(t, "empty and nil", results([]int64{}, nil), want)
		expect(t, "empty and empty", results([]int64{}, []int64{}), want)
	}
}
