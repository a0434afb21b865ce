package tests

import (
	"math"
	"slices"
	"testing"

	"loop.example/g01129/impl"
)

// The tests of this file are for promise 11: roundings with a system.

// noRounding is what SystemRounding must return if it fails.
var noRounding = shown([]int64{}, 0, false)

// setErrorsBy returns the errors of all sets, as they are defined.
func setErrorsBy(x impl.System, v impl.Values, list []int64) []int64 {
	var errors []int64
	for _, set := range x.Sets {
		points := pointsOf(set)
		errors = append(errors, sumAt(points, list)*v.Den-sumAt(points, v.Nums))
	}
	return errors
}

// roundingBy returns the first rounding with the least greatest error of a set, this error, and how many roundings have it.
func roundingBy(x impl.System, v impl.Values) (first []int64, least int64, count int) {
	for i, list := range allRoundings(v) {
		greatest := greatestIn(setErrorsBy(x, v, list))
		if i == 0 || greatest < least {
			first, least, count = list, greatest, 0
		}
		if greatest == least {
			count++
		}
	}
	return first, least, count
}

// anyValuesFor returns values for the points of a system: halves, integers and others, also negative ones.
func (n *numbers) anyValuesFor(x impl.System) impl.Values {
	den := []int64{1, 2, 2, 3, 5, 12, 999, impl.MaxDen}[n.next(0, 7)]
	most := []int64{den, 3 * den, impl.MaxNum}[n.next(0, 2)]
	v := values(den)
	for range x.Points {
		num := n.next(-most, most)
		if n.next(1, 6) == 1 {
			num -= num % den
		}
		v.Nums = append(v.Nums, num)
	}
	return v
}

func TestSetErrors(t *testing.T) {
	x := read(t, "3:ab,bc,ac,abc,-,b,b")
	expect(t, "halves", both(impl.SetErrors(x, values(2, 1, 1, 1), row(0, 0, 1))), "[-2 0 0 -1 0 -1 -1] true")
	expect(t, "integers", both(impl.SetErrors(x, values(3, 6, -9, 0), row(2, -3, 0))), "[0 0 0 0 0 0 0] true")
	expect(t, "negative", both(impl.SetErrors(x, values(3, -7, -2, -3), row(-3, 0, -1))), "[0 2 -2 0 0 2 2] true")
	expect(t, "no sets", both(impl.SetErrors(system(3), values(2, 1, 1, 1), row(0, 0, 1))), "[] true")
	expect(t, "no points", both(impl.SetErrors(system(0, 0, 0), values(2), nil)), "[0 0] true")
	expect(t, "neither", both(impl.SetErrors(system(0), values(2), row())), "[] true")
	expect(t, "greatest", both(impl.SetErrors(system(12, 4095), values(1000, repeated(1, 12)...), repeated(1, 12)))+both(impl.SetErrors(system(12, 4095), values(1000, repeated(-1, 12)...), repeated(-1, 12))), "[11988] true[-11988] true")
	expect(t, "far from 0", both(impl.SetErrors(system(2, 1, 2, 3), values(999, impl.MaxNum, -impl.MaxNum), row(1002, -1001))), "[998 1 999] true")
}

func TestSetErrorsOfAllRoundings(t *testing.T) {
	rule := numbers(93)
	for _, x := range append(smallSystems(94, 200), largeSystems(95, 8)...) {
		v := rule.anyValuesFor(x)
		for _, list := range allRoundings(v) {
			if got, ok := impl.SetErrors(x, v, list); !ok || !slices.Equal(got, setErrorsBy(x, v, list)) {
				t.Errorf("errors of %v for %v and %v: got %v and %v", x, v, list, got, ok)
			}
		}
	}
}

// checkRounding compares a rounding with all others, and returns how many are as good.
func checkRounding(t *testing.T, x impl.System, v impl.Values) int {
	t.Helper()
	list, most, count := roundingBy(x, v)
	what := shown(x, v)
	got, least, ok := impl.SystemRounding(x, v)
	expect(t, "rounding "+what, three(got, least, ok), three(list, most, true))
	errors, ok := impl.SetErrors(x, v, got)
	expect(t, "greatest error "+what, both(greatestIn(errors), ok), both(least, true))
	return count
}

func TestSystemRoundingOfAllRoundings(t *testing.T) {
	rule := numbers(96)
	alone, together := 0, 0
	for _, x := range append(smallSystems(97, 500), largeSystems(98, 30)...) {
		if checkRounding(t, x, rule.anyValuesFor(x)) == 1 {
			alone++
		} else {
			together++
		}
	}
	expect(t, "roundings alone and together", shown(alone > 50, together > 50), "true true")
}

func TestSystemRoundingOfHalves(t *testing.T) {
	for _, x := range append(smallSystems(99, 200), largeSystems(100, 8)...) {
		v := values(2, repeated(1, int(x.Points))...)
		checkRounding(t, x, v)
		// A rounding of halves is a colouring, and the error of a set is its imbalance.
		_, most, _ := impl.SystemRounding(x, v)
		discrepancy, _, _ := impl.DiscrepancyOf(x)
		expect(t, "discrepancy of "+shown(x), shown(most), shown(discrepancy))
	}
}

func TestSystemRounding(t *testing.T) {
	for _, test := range []struct {
		text string
		v    impl.Values
		want string
	}{
		{"3:ab,bc,ac", values(2, 1, 1, 1), "[0 0 0] 2 true"}, {"0:", values(7), "[] 0 true"}, {"0:-,-", values(7), "[] 0 true"}, {"3:", values(2, 1, 2, 3), "[0 1 1] 0 true"}, {"3:-", values(2, 1, -1, 3), "[0 -1 1] 0 true"},
		{"3:abc,a", values(3, 6, -9, 0), "[2 -3 0] 0 true"}, {"1:a", values(3, 1), "[0] 1 true"}, {"1:a", values(3, 2), "[1] 1 true"}, {"1:a", values(2, 1), "[0] 1 true"}, {"1:a", values(2, -1), "[-1] 1 true"}, {"1:a", values(3, -1), "[0] 1 true"}, {"1:a", values(3, -2), "[-1] 1 true"},
		// Of several best lists, the least one does not always round up what has the least index, nor the fewest values.
		{"2:ab", values(2, 1, 1), "[0 1] 0 true"}, {"3:ab,bc", values(2, 1, 1, 1), "[0 1 0] 0 true"}, {"4:ad,bd,cd", values(2, 1, 1, 1, 1), "[0 0 0 1] 0 true"}, {"4:ab,ac,ad", values(2, 1, 1, 1, 1), "[0 1 1 1] 0 true"}, {"4:ab,bc,cd,abcd", values(2, 1, 1, 1, 1), "[0 1 0 1] 0 true"},
		{"3:abc", values(3, 1, 1, 1), "[0 0 1] 0 true"}, {"3:abc", values(3, 2, 2, 2), "[0 1 1] 0 true"}, {"3:abc", values(3, -1, -1, -1), "[-1 0 0] 0 true"}, {"3:abc", values(2, 1, 2, 3), "[0 1 2] 0 true"}, {"3:ab", values(2, 1, 1, 1), "[0 1 0] 0 true"},
		{"12:abcdefghijkl", values(12, repeated(1, 12)...), "[0 0 0 0 0 0 0 0 0 0 0 1] 0 true"}, {"12:l", values(1000, repeated(500, 12)...), "[0 0 0 0 0 0 0 0 0 0 0 0] 500 true"}, {"12:l", values(1000, repeated(501, 12)...), "[0 0 0 0 0 0 0 0 0 0 0 1] 499 true"}, {"12:a", values(1000, repeated(501, 12)...), "[1 0 0 0 0 0 0 0 0 0 0 0] 499 true"},
		{"2:a,b", values(999, impl.MaxNum, -impl.MaxNum), "[1001 -1001] 1 true"},
	} {
		expect(t, "rounding "+shown(test.text, test.v), three(impl.SystemRounding(read(t, test.text), test.v)), test.want)
	}
}

func TestRoundingsAreBoundedByHereditaryDiscrepancies(t *testing.T) {
	rule := numbers(101)
	ones := 0
	for _, x := range smallSystems(102, 500) {
		greatest, _ := impl.HereditaryOf(x)
		if greatest == 1 {
			ones++
		}
		for range 3 {
			v := rule.anyValuesFor(x)
			_, most, ok := impl.SystemRounding(x, v)
			if !ok || most > greatest*v.Den || greatest == 1 && most >= v.Den {
				t.Errorf("%v and %v: error %d, hereditary discrepancy %d", x, v, most, greatest)
			}
		}
	}
	expect(t, "unimodular systems", shown(ones > 50), "true")
}

func TestRoundingsOfIntervalsHaveErrorsLessThanOne(t *testing.T) {
	rule := numbers(103)
	for i := range 200 {
		points := int64(1 + i%12)
		x, _ := impl.IntervalSystem(points, rule.anyEnds(points, rule.next(0, impl.MaxSets)))
		v := rule.anyValuesFor(x)
		_, most, ok := impl.SystemRounding(x, v)
		expect(t, "error "+shown(x, v), shown(ok, most < v.Den), "true true")
	}
	// The intervals from the first point on are running sums.
	for _, v := range []impl.Values{values(2, 1, 1, 1), values(4, 3, 5, -6, 8), values(1000, 1, 999, -500, 333, 10), values(12, repeated(5, 12)...)} {
		var ends [][]int64
		for last := range v.Nums {
			ends = append(ends, row(0, int64(last)))
		}
		x, _ := impl.IntervalSystem(int64(len(v.Nums)), ends)
		expect(t, "running sums "+shown(v), three(impl.SystemRounding(x, v)), three(impl.BestRunning(v)))
	}
}

func TestValuesThatAreNotThoseOfASystemFail(t *testing.T) {
	for _, x := range append(smallSystems(104, 20), largeSystems(105, 4)...) {
		points := int(x.Points)
		wrong := []impl.Values{{}, values(0, repeated(1, points)...), values(-2, repeated(1, points)...), values(impl.MaxDen+1, repeated(1, points)...), values(math.MinInt64, repeated(0, points)...), values(math.MaxInt64, repeated(0, points)...)}
		for _, count := range []int{points + 1, points + 12, 12, 13, 40, 41, 3000} {
			if count != points {
				wrong = append(wrong, values(2, repeated(1, count)...), values(1, repeated(1, count)...))
			}
		}
		if points > 0 {
			wrong = append(wrong, values(2), values(2, repeated(1, points-1)...))
			for _, n := range []int64{impl.MaxNum + 1, -impl.MaxNum - 1, math.MinInt64, math.MaxInt64} {
				wrong = append(wrong, values(2, append(repeated(1, points-1), n)...), values(1, append(row(n), repeated(1, points-1)...)...))
			}
		}
		for _, v := range wrong {
			expect(t, "no rounding "+shown(x, v), three(impl.SystemRounding(x, v)), noRounding)
			for _, list := range [][]int64{nil, repeated(0, points), repeated(1, points), repeated(0, len(v.Nums)), repeated(1, len(v.Nums))} {
				expect(t, "no errors "+shown(x, v, list), both(impl.SetErrors(x, v, list)), noList)
			}
		}
	}
}

func TestListsThatAreNoRoundingsFail(t *testing.T) {
	rule := numbers(106)
	for _, x := range append(smallSystems(107, 60), largeSystems(108, 8)...) {
		v := rule.anyValuesFor(x)
		list := allRoundings(v)[0]
		others := [][]int64{append(slices.Clone(list), 0), repeated(1<<32, len(list)+1), repeated(0, 3000)}
		for i := range list {
			others = append(others, slices.Delete(slices.Clone(list), i, i+1))
			for _, n := range []int64{list[i] - 1, list[i] + 2, -list[i] - 3000000, list[i] + 1<<32, math.MinInt64, math.MaxInt64} {
				others = append(others, replaced(list, int64(i), n))
			}
			if v.Nums[i]%v.Den == 0 {
				others = append(others, replaced(list, int64(i), list[i]+1))
			}
		}
		for _, other := range others {
			expect(t, "no rounding "+shown(x, v, other), both(impl.SetErrors(x, v, other)), noList)
		}
	}
}
