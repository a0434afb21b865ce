package tests

import (
	"math"
	"slices"
	"testing"

	"loop.example/g01129/impl"
)

// The tests of this file are for promise 1 and the functions of chapter 8.

// anyDemandLists are demands of all kinds, and other lists.
func anyDemandLists() [][]int64 {
	return slices.Concat(limitDemands(), noDemands(), anyLists())
}

// anyBounds are bounds of all kinds, and other numbers.
func anyBounds() []int64 {
	return append(extremes(), 3, 5, 8, 60, 80, 81, 1600, 6400, 6560, 6561, 6562, 1<<32, 1<<62, -1<<62)
}

func TestDemandsReturnRepeatAndChangeNothing(t *testing.T) {
	for _, given := range anyDemandLists() {
		demands, isSame := guarded(given)
		twice(t, "demands", func() string {
			return shown(impl.ValidDemands(demands)) + three(impl.BestSequence(demands)) + three(impl.LeastSquares(demands)) + both(impl.NeedySequence(demands))
		})
		for _, bound := range anyBounds() {
			twice(t, "bounds", func() string { return windows(demands, bound) })
		}
		if !isSame() {
			t.Errorf("a function of demands changes %v", given)
		}
	}
}

func TestSequencesReturnRepeatAndChangeNothing(t *testing.T) {
	rule := numbers(41)
	for _, given := range anyDemandLists() {
		demands, isSame := guarded(given)
		blocks := blocksOfFew(given[:min(len(given), impl.MaxProducts)])
		others := append(anyLists(), blocks, rule.inAnyOrder(blocks), given, row(-1), row(6), row(0, 1, 0), repeated(5, 40), repeated(math.MinInt64, 3))
		for _, other := range others {
			list, isSameList := guarded(other)
			twice(t, "sequences", func() string { return deviations(demands, list) })
			if !isSameList() {
				t.Errorf("a function of sequences changes %v", other)
			}
		}
		if !isSame() {
			t.Errorf("a function of sequences changes %v", given)
		}
	}
}

func TestTimeReturnsNewLists(t *testing.T) {
	one, demands, equal := row(3), row(1, 1, 4, 4), row(2, 2)
	checkNewLists(t, func() string { return shown(one, demands, equal) }, map[string]func() ([]int64, []int64, bool){
		"BestSequence":        func() ([]int64, []int64, bool) { r, _, ok := impl.BestSequence(demands); return r, nil, ok },
		"BestSequence of one": func() ([]int64, []int64, bool) { r, _, ok := impl.BestSequence(one); return r, nil, ok },
		"LeastSquares":        func() ([]int64, []int64, bool) { r, _, ok := impl.LeastSquares(demands); return r, nil, ok },
		"LeastSquares equal":  func() ([]int64, []int64, bool) { r, _, ok := impl.LeastSquares(equal); return r, nil, ok },
		"NeedySequence":       func() ([]int64, []int64, bool) { r, ok := impl.NeedySequence(demands); return r, nil, ok },
		"NeedySequence equal": func() ([]int64, []int64, bool) { r, ok := impl.NeedySequence(equal); return r, nil, ok },
		"a row and the next one of DeviationsOf": func() ([]int64, []int64, bool) {
			r, ok := impl.DeviationsOf(equal, row(0, 1, 1, 0))
			return r[0], r[1], ok
		},
		"an earliest and a latest list of WindowsOf": func() ([]int64, []int64, bool) {
			early, late, ok := impl.WindowsOf(equal, 2)
			return early[0], late[0], ok
		},
	})
}

func TestTimeReturnsNewRows(t *testing.T) {
	one, demands, equal := row(3), row(1, 1, 4, 4), row(2, 2)
	needy, _ := impl.NeedySequence(demands)
	allWindows := func(demands []int64, bound int64) [][]int64 {
		earliest, latest, _ := impl.WindowsOf(demands, bound)
		return append(earliest, latest...)
	}
	for name, call := range map[string]func() [][]int64{
		"DeviationsOf":              func() [][]int64 { r, _ := impl.DeviationsOf(demands, needy); return r },
		"DeviationsOf one product":  func() [][]int64 { r, _ := impl.DeviationsOf(one, row(0, 0, 0)); return r },
		"DeviationsOf equal ones":   func() [][]int64 { r, _ := impl.DeviationsOf(equal, row(0, 1, 0, 1)); return r },
		"WindowsOf":                 func() [][]int64 { return allWindows(demands, 7) },
		"WindowsOf one product":     func() [][]int64 { return allWindows(one, 0) },
		"WindowsOf equal ones":      func() [][]int64 { return allWindows(equal, 2) },
		"WindowsOf the last bound":  func() [][]int64 { return allWindows(equal, 15) },
		"earliest places":           func() [][]int64 { r, _, _ := impl.WindowsOf(demands, 7); return r },
		"latest places":             func() [][]int64 { _, r, _ := impl.WindowsOf(demands, 7); return r },
		"latest places of one":      func() [][]int64 { _, r, _ := impl.WindowsOf(one, 8); return r },
		"earliest places of no use": func() [][]int64 { r, _, _ := impl.WindowsOf(equal, 0); return r },
	} {
		checkNewRows(t, name, func() string { return shown(one, demands, equal, needy) }, call)
	}
}

func TestDemandsOfNilAndEmptyListsAreTheSame(t *testing.T) {
	results := func(demands, list []int64) string {
		all := shown(impl.ValidDemands(demands)) + three(impl.BestSequence(demands)) + three(impl.LeastSquares(demands)) + both(impl.NeedySequence(demands))
		for _, bound := range anyBounds() {
			all += windows(demands, bound)
		}
		return all + deviations(demands, list) + deviations(row(1), list) + deviations(row(2, 1), list) + deviations(demands, row(0))
	}
	want := results(nil, nil)
	expect(t, "nil and empty", results(nil, []int64{}), want)
	expect(t, "empty and nil", results([]int64{}, nil), want)
	expect(t, "empty with capacity", results(make([]int64, 0, 6), make([]int64, 0, 3)), want)
}
