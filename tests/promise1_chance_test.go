package tests

import (
	"math"
	"testing"

	"loop.example/g01129/impl"
)

// The tests of this file are for promise 1 and the functions of chapter 6.

// anyMixtures are mixtures of all kinds, and others that are none.
func anyMixtures() []impl.Mixture {
	all := append(validMixtures()[:40], invalidMixtures()...)
	for _, lists := range anyRows() {
		all = append(all, mixture(repeated(1, len(lists)), lists...))
	}
	for _, list := range anyLists() {
		all = append(all, mixture(list, countedLists(int64(len(list)))...), mixture(row(1), list), mixture(row(2, 3), list, list), mixture(row(2, 3), list, row(1, 1)))
	}
	return all
}

// guardedMixture returns a copy of a mixture that has unused capacity, and a function that tells whether any of it was changed.
func guardedMixture(m impl.Mixture) (impl.Mixture, func() bool) {
	weights, isSameWeights := guarded(m.Weights)
	lists, isSameLists := guardedGroups(m.Lists)
	return impl.Mixture{Weights: weights, Lists: lists}, func() bool { return isSameWeights() && isSameLists() }
}

// anyPlaces are indexes, tickets and numbers of lists, and others.
func anyPlaces() []int64 {
	return []int64{math.MinInt64, -1, 0, 1, 2, 3, 39, 40, 63, 64, impl.MaxWeight - 1, impl.MaxWeight, math.MaxInt64}
}

func TestMixturesReturnRepeatAndChangeNothing(t *testing.T) {
	for _, given := range anyMixtures() {
		m, isSame := guardedMixture(given)
		twice(t, "mixtures", func() string {
			return shown(impl.ValidMixture(m)) + both(impl.MixtureMeans(m)) + three(impl.SumWeights(m))
		})
		for _, n := range anyPlaces() {
			twice(t, "tickets", func() string { return both(impl.DrawFrom(m, n)) })
			for _, k := range anyPlaces() {
				twice(t, "pairs", func() string { return both(impl.PairWeight(m, n, 1, k, 1)) + both(impl.PairWeight(m, 0, n, 0, k)) })
			}
		}
		if !isSame() {
			t.Errorf("a function of mixtures changes %v", given)
		}
	}
}

func TestIsMixtureOfReturnsRepeatsAndChangesNothing(t *testing.T) {
	for _, given := range anyMixtures() {
		m, isSame := guardedMixture(given)
		for _, nums := range anyLists() {
			list, isSameList := guarded(nums)
			for _, den := range anyDens() {
				twice(t, "mixture and values", func() string { return shown(impl.IsMixtureOf(m, impl.Values{Den: den, Nums: list})) })
			}
			if !isSameList() {
				t.Errorf("IsMixtureOf changes %v", nums)
			}
		}
		if !isSame() {
			t.Errorf("IsMixtureOf changes %v", given)
		}
	}
}

func TestSystematicReturnsRepeatsAndChangesNothing(t *testing.T) {
	for _, nums := range anyLists() {
		list, isSame := guarded(nums)
		for _, den := range anyDens() {
			v := impl.Values{Den: den, Nums: list}
			twice(t, "values", func() string { return both(impl.SystematicMixture(v)) })
			for _, other := range append(wrongOrders(), upTo(0, int64(len(nums))-1), row(1, 0), row(2, 0, 1), nums) {
				order, isSameOrder := guarded(other)
				twice(t, "values in order", func() string { return both(impl.SystematicIn(v, order)) })
				if !isSameOrder() {
					t.Errorf("SystematicIn changes %v", other)
				}
			}
			if !isSame() || v.Den != den {
				t.Errorf("a function of values changes %d and %v", den, nums)
			}
		}
	}
}

func TestPermutationsReturnRepeatAndChangeNothing(t *testing.T) {
	all := append(anyRows(), noDoubly()...)
	rule := numbers(27)
	for count := range impl.MaxSquare {
		all = append(all, square(1, count+1, count+1), rule.anyDoubly(count+1, 4, 9))
	}
	for _, given := range all {
		rows, isSame := guardedGroups(given)
		twice(t, "rows", func() string { return shown(impl.IsDoubly(rows)) + both(impl.PermutationMixture(rows)) })
		if !isSame() {
			t.Errorf("a function of rows changes %v", given)
		}
	}
}

func TestChanceReturnsNewLists(t *testing.T) {
	m := mixture(row(2, 3), row(4, -5), row(-5, 6))
	one := mixture(row(7), row(1, 2))
	v, whole := values(3, 1, 1, 1), values(2, 4, 6)
	order := row(2, 0, 1)
	rows := [][]int64{{1, 2}, {2, 1}}
	checkNewLists(t, func() string { return shown(m, one, v, whole, order, rows) }, map[string]func() ([]int64, []int64, bool){
		"MixtureMeans":             func() ([]int64, []int64, bool) { r, ok := impl.MixtureMeans(m); return r.Nums, nil, ok },
		"MixtureMeans of one list": func() ([]int64, []int64, bool) { r, ok := impl.MixtureMeans(one); return r.Nums, nil, ok },
		"DrawFrom":                 func() ([]int64, []int64, bool) { r, ok := impl.DrawFrom(m, 4); return r, nil, ok },
		"DrawFrom one list":        func() ([]int64, []int64, bool) { r, ok := impl.DrawFrom(one, 0); return r, nil, ok },
		"SumWeights":               func() ([]int64, []int64, bool) { return impl.SumWeights(m) },
		"SumWeights of one list":   func() ([]int64, []int64, bool) { return impl.SumWeights(one) },
		"weights and first list of SystematicMixture": func() ([]int64, []int64, bool) {
			r, ok := impl.SystematicMixture(v)
			return r.Weights, r.Lists[0], ok
		},
		"weights and last list of SystematicIn": func() ([]int64, []int64, bool) {
			r, ok := impl.SystematicIn(v, order)
			return r.Weights, r.Lists[2], ok
		},
		"weights and first list of PermutationMixture": func() ([]int64, []int64, bool) {
			r, ok := impl.PermutationMixture(rows)
			return r.Weights, r.Lists[0], ok
		},
	})
}

func TestMixturesAreNewLists(t *testing.T) {
	v, whole := values(3, 1, 1, 1), values(2, 4, 6)
	order, other := row(2, 0, 1), row(0, 1)
	rows, one := square(1, 4, 4), [][]int64{{3}}
	for name, call := range map[string]func() (impl.Mixture, bool){
		"SystematicMixture":             func() (impl.Mixture, bool) { return impl.SystematicMixture(v) },
		"SystematicMixture of integers": func() (impl.Mixture, bool) { return impl.SystematicMixture(whole) },
		"SystematicIn":                  func() (impl.Mixture, bool) { return impl.SystematicIn(v, order) },
		"SystematicIn of integers":      func() (impl.Mixture, bool) { return impl.SystematicIn(whole, other) },
		"PermutationMixture":            func() (impl.Mixture, bool) { return impl.PermutationMixture(rows) },
		"PermutationMixture of one":     func() (impl.Mixture, bool) { return impl.PermutationMixture(one) },
	} {
		checkNewRows(t, name, func() string { return shown(v, whole, order, other, rows, one) }, func() [][]int64 {
			m, ok := call()
			if !ok {
				t.Errorf("%s fails", name)
			}
			return m.Lists
		})
	}
}

func TestMixturesOfNilAndEmptyListsAreTheSame(t *testing.T) {
	for _, den := range anyDens() {
		results := func(none []int64, rows [][]int64) string {
			v := impl.Values{Den: den, Nums: none}
			all := both(impl.SystematicMixture(v)) + both(impl.SystematicIn(v, none)) + both(impl.SystematicIn(v, nil)) + both(impl.SystematicIn(values(den, 1), none)) +
				shown(impl.IsDoubly(rows), impl.IsDoubly([][]int64{none})) + both(impl.PermutationMixture(rows)) + both(impl.PermutationMixture([][]int64{none}))
			for _, m := range []impl.Mixture{mixture(none, rows...), mixture(none, none), mixture(row(den), none), mixture(row(1), none), mixture(row(1), rows...), mixture(row(1, 1), none, none), mixture(row(1, 1), none, row(1)), mixture(none, row(1))} {
				all += shown(impl.ValidMixture(m), impl.IsMixtureOf(m, v), impl.IsMixtureOf(m, values(1))) + both(impl.MixtureMeans(m)) + both(impl.DrawFrom(m, 0)) + both(impl.PairWeight(m, 0, 0, 0, 0)) + three(impl.SumWeights(m))
			}
			return all
		}
		want := results(nil, nil)
		expect(t, "nil and empty", results(nil, [][]int64{}), want)
		expect(t, "empty and nil", results([]int64{}, nil), want)
		expect(t, "empty and empty", results([]int64{}, [][]int64{}), want)
	}
}
