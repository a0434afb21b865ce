package tests

import (
	"math"
	"slices"
	"testing"

	"loop.example/g01129/impl"
)

// The tests of this file are for promise 1 and the functions of chapter 10.

// anySystems are systems of all kinds, and others that are not valid.
func anySystems() []impl.System {
	all := slices.Concat(smallSystems(111, 40), largeSystems(112, 4))
	for i, x := range noSystems() {
		if i%3 == 0 {
			all = append(all, x)
		}
	}
	for i, list := range anyLists() {
		all = append(all, system(int64(i%14), list...))
	}
	return all
}

// guardedSystem returns a copy of a system that has unused capacity, and a function that tells whether any of it was changed.
func guardedSystem(x impl.System) (impl.System, func() bool) {
	sets, isSame := guarded(x.Sets)
	return impl.System{Points: x.Points, Sets: sets}, isSame
}

// anySetsOfPoints are sets of points, and numbers that are none.
func anySetsOfPoints() []int64 {
	return append(extremes(), 3, 5, 7, 8, 12, 255, 256, 2730, 4095, 4096, 1<<32, 1<<62)
}

func TestSystemsReturnRepeatAndChangeNothing(t *testing.T) {
	for _, given := range anySystems() {
		x, isSame := guardedSystem(given)
		twice(t, "systems", func() string {
			return shown(impl.ValidSystem(x), impl.IsUnimodular(x)) + three(impl.DiscrepancyOf(x)) + both(impl.HereditaryOf(x)) + both(impl.DegreeOf(x)) + three(impl.AverageImbalance(x)) + both(impl.SystemText(x))
		})
		for _, n := range anySetsOfPoints() {
			twice(t, "sets of points", func() string { return both(impl.ImbalancesOf(x, n)) + both(impl.RestrictSystem(x, n)) })
		}
		if !isSame() {
			t.Errorf("a function of systems changes %v", given)
		}
	}
}

func TestRoundingsWithSystemsReturnRepeatAndChangeNothing(t *testing.T) {
	rule := numbers(113)
	for _, given := range anySystems() {
		x, isSame := guardedSystem(given)
		points := int(min(max(x.Points, 0), 13))
		others := append(slices.Concat(validValues(), invalidValues()), values(2, repeated(1, points)...), values(0, repeated(1, points)...), values(7, repeated(math.MinInt64, points)...), values(math.MaxInt64, repeated(math.MaxInt64, points)...))
		if impl.ValidSystem(x) {
			others = append(others, rule.anyValuesFor(x))
		}
		for _, other := range others {
			nums, isSameNums := guarded(other.Nums)
			v := impl.Values{Den: other.Den, Nums: nums}
			twice(t, "roundings", func() string { return three(impl.SystemRounding(x, v)) })
			floors, _ := impl.FloorsOf(v)
			for _, ints := range [][]int64{nil, floors, other.Nums, repeated(0, points), repeated(1, points), repeated(math.MaxInt64, points), repeated(math.MinInt64, points+1)} {
				list, isSameList := guarded(ints)
				twice(t, "errors", func() string { return both(impl.SetErrors(x, v, list)) })
				if !isSameList() {
					t.Errorf("SetErrors changes %v", ints)
				}
			}
			if !isSameNums() {
				t.Errorf("a function of roundings changes %v", other)
			}
		}
		if !isSame() {
			t.Errorf("a function of roundings changes %v", given)
		}
	}
}

func TestMadeSystemsReturnRepeatAndChangeNothing(t *testing.T) {
	all := append(anyGroups(), allEnds(4), allEnds(5), allEnds(12)[:12], [][]int64{{0, 11}}, [][]int64{{1, 0}}, [][]int64{{math.MinInt64, math.MaxInt64}}, [][]int64{{math.MaxInt64, math.MinInt64}}, slices.Repeat([][]int64{{0, 0}}, 3000))
	for _, given := range all {
		ends, isSame := guardedGroups(given)
		for _, points := range append(extremes(), 3, 4, 12, 13, 62, 63, 64) {
			twice(t, "intervals", func() string { return both(impl.IntervalSystem(points, ends)) })
		}
		if !isSame() {
			t.Errorf("IntervalSystem changes %v", given)
		}
	}
	for _, k := range append(extremes(), 3, 4, 62, 63, 64) {
		twice(t, "orders", func() string { return both(impl.HadamardSystem(k)) })
	}
	for _, s := range append(anyTexts(), wrongSystemTexts()...) {
		twice(t, "texts", func() string { return both(impl.ReadSystem(s)) })
	}
	for s := range systemTexts() {
		twice(t, "texts of systems", func() string { return both(impl.ReadSystem(s)) })
	}
}

func TestColouringsReturnNewLists(t *testing.T) {
	x, v, list := system(3, 3, 6, 5, 0), values(2, 1, 2, -3), row(0, 1, -1)
	whole, ends := values(1, 4, 5, 6), [][]int64{{0, 1}, {2, 2}}
	ofSets := func(x impl.System, ok bool) ([]int64, []int64, bool) { return x.Sets, nil, ok }
	ofList := func(list []int64, ok bool) ([]int64, []int64, bool) { return list, nil, ok }
	checkNewLists(t, func() string { return shown(x, v, list, whole, ends) }, map[string]func() ([]int64, []int64, bool){
		"ImbalancesOf":                 func() ([]int64, []int64, bool) { return ofList(impl.ImbalancesOf(x, 5)) },
		"RestrictSystem":               func() ([]int64, []int64, bool) { return ofSets(impl.RestrictSystem(x, 5)) },
		"RestrictSystem to all points": func() ([]int64, []int64, bool) { return ofSets(impl.RestrictSystem(x, 7)) },
		"RestrictSystem to no point":   func() ([]int64, []int64, bool) { return ofSets(impl.RestrictSystem(x, 0)) },
		"IntervalSystem":               func() ([]int64, []int64, bool) { return ofSets(impl.IntervalSystem(3, ends)) },
		"HadamardSystem":               func() ([]int64, []int64, bool) { return ofSets(impl.HadamardSystem(3)) },
		"HadamardSystem of order 0":    func() ([]int64, []int64, bool) { return ofSets(impl.HadamardSystem(0)) },
		"SetErrors":                    func() ([]int64, []int64, bool) { return ofList(impl.SetErrors(x, v, list)) },
		"SystemRounding":               func() ([]int64, []int64, bool) { r, _, ok := impl.SystemRounding(x, v); return r, nil, ok },
		"SystemRounding of integers":   func() ([]int64, []int64, bool) { r, _, ok := impl.SystemRounding(x, whole); return r, nil, ok },
		"ReadSystem":                   func() ([]int64, []int64, bool) { return ofSets(impl.ReadSystem("3:ab,bc,-")) },
		"ReadSystem of one set":        func() ([]int64, []int64, bool) { return ofSets(impl.ReadSystem("12:abcdefghijkl")) },
		"ReadSystem of no set":         func() ([]int64, []int64, bool) { return ofSets(impl.ReadSystem("12:")) },
		"IntervalSystem without a set": func() ([]int64, []int64, bool) { return ofSets(impl.IntervalSystem(12, nil)) },
		"ImbalancesOf without a set":   func() ([]int64, []int64, bool) { return ofList(impl.ImbalancesOf(system(3), 5)) },
		"SystemRounding without points": func() ([]int64, []int64, bool) {
			r, _, ok := impl.SystemRounding(system(0), values(1))
			return r, nil, ok
		},
	})
}

func TestSystemsOfNilAndEmptyListsAreTheSame(t *testing.T) {
	results := func(sets, none []int64, ends [][]int64) string {
		all := ""
		for points := int64(-1); points <= 13; points++ {
			x := impl.System{Points: points, Sets: sets}
			all += shown(impl.ValidSystem(x), impl.IsUnimodular(x)) + three(impl.DiscrepancyOf(x)) + both(impl.HereditaryOf(x)) + both(impl.DegreeOf(x)) + three(impl.AverageImbalance(x)) + both(impl.SystemText(x)) +
				both(impl.ImbalancesOf(x, 1)) + both(impl.RestrictSystem(x, 1)) + both(impl.IntervalSystem(points, ends)) + both(impl.IntervalSystem(points, [][]int64{none}))
			for _, den := range anyDens() {
				v := impl.Values{Den: den, Nums: none}
				all += three(impl.SystemRounding(x, v)) + both(impl.SetErrors(x, v, none)) + both(impl.SetErrors(x, v, row(0))) + both(impl.SetErrors(x, values(2, 1), none))
			}
		}
		return all
	}
	want := results(nil, nil, nil)
	expect(t, "nil and empty", results(nil, []int64{}, [][]int64{}), want)
	expect(t, "empty and nil", results([]int64{}, nil, nil), want)
	expect(t, "empty with capacity", results(make([]int64, 0, 12), make([]int64, 0, 4), make([][]int64, 0, 4)), want)
}
