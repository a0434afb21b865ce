package tests

import (
	"math"
	"math/big"
	"slices"
	"testing"

	"loop.example/g01129/impl"
)

// The tests of this file are for promise 7: drawing in order.

func TestExamplesOfDrawingInOrder(t *testing.T) {
	m, ok := impl.SystematicMixture(values(2, 1, 1, 1))
	expect(t, "mixture", both(m, ok), "{[1 1] [[0 1 0] [1 0 1]]} true")
}

// roundedDown returns a sum divided by den and rounded down.
func roundedDown(sum, den int64) int64 {
	// For a divisor greater than 0, Div rounds down.
	return new(big.Int).Div(big.NewInt(sum), big.NewInt(den)).Int64()
}

// startList returns the list of a start as it is defined, each number for itself.
func startList(v impl.Values, order []int64, start int64) []int64 {
	list := repeated(0, len(order))
	for k, i := range order {
		without := start
		for _, other := range order[:k] {
			without += v.Nums[other]
		}
		list[i] = roundedDown(without+v.Nums[i], v.Den) - roundedDown(without, v.Den)
	}
	return list
}

// mixtureOfStarts returns the different lists of all starts, and how many starts each of them has.
func mixtureOfStarts(v impl.Values, order []int64) impl.Mixture {
	var m impl.Mixture
	for start := range v.Den {
		list := startList(v, order, start)
		n := slices.IndexFunc(m.Lists, func(other []int64) bool { return slices.Equal(list, other) })
		if n < 0 {
			n = len(m.Lists)
			m.Lists, m.Weights = append(m.Lists, list), append(m.Weights, 0)
		}
		m.Weights[n]++
	}
	return m
}

// checkSystematic checks the mixture of values in an order, and what promise 7 says of it.
func checkSystematic(t *testing.T, v impl.Values, order []int64) {
	t.Helper()
	what := shown(v, order)
	want := mixtureOfStarts(v, order)
	m, ok := impl.SystematicIn(v, order)
	expect(t, "mixture "+what, both(m, ok), both(want, true))
	expect(t, "valid "+what, shown(impl.ValidMixture(m), totalOf(m), len(m.Lists) <= len(v.Nums)+1), shown(true, v.Den, true))
	expect(t, "of the values "+what, shown(impl.IsMixtureOf(m, v)), "true")
	for i, num := range v.Nums {
		if meanAt(m, i).Cmp(big.NewRat(num, v.Den)) != 0 {
			t.Errorf("mean at %d of %s: got %v", i, what, meanAt(m, i))
		}
	}
	checkFirstSums(t, v, order, m)
}

// checkFirstSums checks that the sums of the first numbers of each list, in an order, are those of the first values, rounded down or up.
func checkFirstSums(t *testing.T, v impl.Values, order []int64, m impl.Mixture) {
	t.Helper()
	for _, list := range m.Lists {
		sum, exact := int64(0), int64(0)
		for _, i := range order {
			sum += list[i]
			exact += v.Nums[i]
			if !isFloor(sum, exact, v.Den) && !isCeiling(sum, exact, v.Den) {
				t.Errorf("first numbers of %v for %v in the order %v: got the sum %d up to the index %d", list, v, order, sum, i)
			}
		}
	}
}

// ascending returns the ascending order of the indexes of values.
func ascending(v impl.Values) []int64 { return upTo(0, int64(len(v.Nums))-1) }

// anyOrder returns the indexes of count values in any order.
func (n *numbers) anyOrder(count int) []int64 {
	order := upTo(0, int64(count)-1)
	for i := range order {
		k := n.next(int64(i), int64(count)-1)
		order[i], order[k] = order[k], order[i]
	}
	return order
}

// ordersOf returns some orders of the indexes of values.
func (n *numbers) ordersOf(v impl.Values) [][]int64 {
	descending := ascending(v)
	slices.Reverse(descending)
	return [][]int64{ascending(v), descending, n.anyOrder(len(v.Nums))}
}

func TestSystematicOfAnyValues(t *testing.T) {
	rule := numbers(22)
	for _, v := range slices.Concat(valuesOfAllKinds(), validValues()) {
		for _, order := range rule.ordersOf(v) {
			checkSystematic(t, v, order)
		}
	}
}

func TestSystematicMixtureIsThatOfTheAscendingOrder(t *testing.T) {
	for _, v := range slices.Concat(valuesOfAllKinds(), validValues()) {
		expect(t, "mixture "+shown(v), both(impl.SystematicMixture(v)), both(mixtureOfStarts(v, ascending(v)), true))
	}
}

func TestSystematicOfAllOrders(t *testing.T) {
	for _, v := range []impl.Values{values(5, 1, 2, 3, 4), values(6, 2, 3, -4, 1), values(7, -3, 10, 3, 2), values(4, 4, 1, 0, 1)} {
		for _, order := range allPermutations(4) {
			checkSystematic(t, v, order)
		}
	}
}

func TestSystematicOfLongValues(t *testing.T) {
	rule := numbers(23)
	for _, v := range longValues() {
		if v.Den > 500 && rule.next(1, 4) > 1 {
			continue
		}
		checkSystematic(t, v, rule.anyOrder(len(v.Nums)))
	}
}

func TestSystematicInAnotherOrder(t *testing.T) {
	v := values(2, 1, 1, 1)
	expect(t, "first, last, middle", both(impl.SystematicIn(v, row(0, 2, 1))), "{[1 1] [[0 0 1] [1 1 0]]} true")
	expect(t, "descending", both(impl.SystematicIn(v, row(2, 1, 0))), "{[1 1] [[0 1 0] [1 0 1]]} true")
	// An order that is not its own reverse: the place 0 has the index 1, and the place 1 has the index 2.
	w := values(10, 1, 2, 4)
	expect(t, "ascending", both(impl.SystematicIn(w, row(0, 1, 2))), "{[3 4 2 1] [[0 0 0] [0 0 1] [0 1 0] [1 0 0]]} true")
	expect(t, "a cycle", both(impl.SystematicIn(w, row(1, 2, 0))), "{[3 1 4 2] [[0 0 0] [1 0 0] [0 0 1] [0 1 0]]} true")
	expect(t, "the other cycle", both(impl.SystematicIn(w, row(2, 0, 1))), "{[3 2 1 4] [[0 0 0] [0 1 0] [1 0 0] [0 0 1]]} true")
}

func TestSystematicOfNegativeValues(t *testing.T) {
	expect(t, "negative", both(impl.SystematicMixture(values(3, -1, -1))), "{[1 1 1] [[-1 0] [0 -1] [0 0]]} true")
	expect(t, "both signs", both(impl.SystematicMixture(values(4, -6, 5))), "{[1 1 2] [[-2 1] [-2 2] [-1 1]]} true")
	expect(t, "negative integers", both(impl.SystematicMixture(values(3, -3, -6, 0))), "{[3] [[-1 -2 0]]} true")
}

func TestSystematicOfIntegersAndOfNoValues(t *testing.T) {
	expect(t, "no values", both(impl.SystematicMixture(values(7)))+both(impl.SystematicIn(values(7), nil))+both(impl.SystematicIn(values(7), row())), "{[7] [[]]} true{[7] [[]]} true{[7] [[]]} true")
	expect(t, "no values with MaxDen and 1", both(impl.SystematicMixture(values(impl.MaxDen)))+both(impl.SystematicMixture(values(1))), "{[1000] [[]]} true{[1] [[]]} true")
	expect(t, "denominator 1", both(impl.SystematicMixture(values(1, 3, -5, 0)))+both(impl.SystematicIn(values(1, 3, -5, 0), row(2, 0, 1))), "{[1] [[3 -5 0]]} true{[1] [[3 -5 0]]} true")
	expect(t, "integers", both(impl.SystematicMixture(values(impl.MaxDen, 3000, -5000))), "{[1000] [[3 -5]]} true")
	expect(t, "one value", both(impl.SystematicMixture(values(5, 7)))+both(impl.SystematicMixture(values(5, -7))), "{[3 2] [[1] [2]]} true{[2 3] [[-2] [-1]]} true")
	expect(t, "limits", both(impl.SystematicMixture(values(1, impl.MaxNum, -impl.MaxNum)))+both(impl.SystematicMixture(values(3, impl.MaxNum, -impl.MaxNum))), "{[1] [[1000000 -1000000]]} true{[2 1] [[333333 -333333] [333334 -333334]]} true")
}

func TestSystematicOfMaxDen(t *testing.T) {
	expect(t, "one start that differs", both(impl.SystematicMixture(values(impl.MaxDen, 1))), "{[999 1] [[0] [1]]} true")
	expect(t, "one start that differs at first", both(impl.SystematicMixture(values(impl.MaxDen, -1))), "{[1 999] [[-1] [0]]} true")
	for _, nums := range [][]int64{{1, 999}, {500, 250, 250}, {333, 333, 334}, {-1, 1}, {999999, -999999}, {0, 0}} {
		checkSystematic(t, values(impl.MaxDen, nums...), upTo(0, int64(len(nums))-1))
	}
}

func TestSystematicHasOneListMoreThanValuesAtMost(t *testing.T) {
	m, ok := impl.SystematicMixture(values(impl.MaxDen, repeated(1, impl.MaxItems)...))
	expect(t, "lists", shown(ok, len(m.Lists), impl.ValidMixture(m)), "true 41 true")
	expect(t, "weights", shown(m.Weights), shown(append(row(960), repeated(1, 40)...)))
	expect(t, "first and last", shown(m.Lists[0], m.Lists[1][39], m.Lists[40][0]), shown(repeated(0, 40), 1, 1))
}

func TestStartsThatGiveTheSameList(t *testing.T) {
	expect(t, "terms that are not the lowest ones", both(impl.SystematicMixture(values(6, 2, 2, 2))), "{[2 2 2] [[0 0 1] [0 1 0] [1 0 0]]} true")
	expect(t, "different weights", both(impl.SystematicMixture(values(5, 1, 3))), "{[1 3 1] [[0 0] [0 1] [1 0]]} true")
	expect(t, "forth and back", both(impl.SystematicMixture(values(5, 2, -2, 2, -2))), "{[3 2] [[0 0 0 0] [1 -1 1 -1]]} true")
	expect(t, "back and forth", both(impl.SystematicMixture(values(5, -2, 2, -2, 2))), "{[2 3] [[-1 1 -1 1] [0 0 0 0]]} true")
}

// With a greater start, no rounded sum up to a place is less. So the lists of two starts differ if there is another list between
// them, and the tickets of a systematic mixture are its starts.
func TestTicketsOfSystematicMixturesAreStarts(t *testing.T) {
	rule := numbers(24)
	for range 400 {
		v := impl.Values{Den: rule.next(1, 20)}
		for range rule.next(0, 7) {
			v.Nums = append(v.Nums, rule.next(-40, 40))
		}
		order := rule.anyOrder(len(v.Nums))
		m, _ := impl.SystematicIn(v, order)
		for start := range v.Den {
			expect(t, "start "+shown(start, v, order), both(impl.DrawFrom(m, start)), both(startList(v, order, start), true))
		}
		expect(t, "no start "+shown(v, order), both(impl.DrawFrom(m, v.Den)), noList)
	}
}

func TestChancesOfSystematicMixtures(t *testing.T) {
	m, _ := impl.SystematicMixture(values(4, 1, 1, 1, 1))
	for i := range int64(4) {
		for j := range int64(4) {
			want := int64(0)
			if i == j {
				want = 1
			}
			expect(t, "pair "+shown(i, j), both(impl.PairWeight(m, i, 1, j, 1)), both(want, true))
		}
	}
	expect(t, "sums", three(impl.SumWeights(m)), "[1] [4] true")
	expect(t, "means", both(impl.MixtureMeans(m)), "{4 [1 1 1 1]} true")
	n, _ := impl.SystematicMixture(values(6, 2, 4, 3))
	expect(t, "means in lowest terms", both(impl.MixtureMeans(n)), "{6 [2 4 3]} true")
	o, _ := impl.SystematicMixture(values(6, 2, 4, 6))
	expect(t, "means in lower terms", both(impl.MixtureMeans(o)), "{3 [1 2 3]} true")
	expect(t, "sums that differ", three(impl.SumWeights(n)), "[1 2] [3 3] true")
}

// wrongOrders are lists that are no orders of three values.
func wrongOrders() [][]int64 {
	return [][]int64{
		nil, {}, {0}, {0, 1}, {2, 1}, {0, 1, 2, 3}, {0, 1, 2, 0}, {0, 1, 2, 2}, {0, 0, 1}, {0, 1, 1}, {2, 1, 2}, {0, 0, 0}, {1, 1, 1}, {2, 2, 2}, {1, 2, 3}, {3, 1, 2}, {0, 1, 3}, {-1, 0, 1}, {0, -1, 2}, {0, 1, -2}, {1, 0, 64}, {64, 65, 66}, {0, 1, 66},
		{0, 1, math.MaxInt64}, {math.MinInt64, 0, 1}, {0, 1, 1 << 32}, {0, 1, 2 - math.MaxInt64 - 1}, repeated(0, 3000), upTo(0, 39), upTo(0, 40), upTo(1, 3),
	}
}

func TestInvalidOrdersFail(t *testing.T) {
	for _, den := range []int64{1, 2, impl.MaxDen} {
		for _, order := range wrongOrders() {
			expect(t, "order "+shown(den, order), both(impl.SystematicIn(values(den, 1, 1, 1), order)), noMixture)
			expect(t, "order of none "+shown(den, order), shown(len(order) == 0 || both(impl.SystematicIn(values(den), order)) == noMixture), "true")
		}
		expect(t, "order of one", both(impl.SystematicIn(values(den, 0), nil))+both(impl.SystematicIn(values(den, 0), row(1)))+both(impl.SystematicIn(values(den, 0), row(-1)))+both(impl.SystematicIn(values(den, 0), row(0, 0))), noMixture+noMixture+noMixture+noMixture)
		expect(t, "order of none", both(impl.SystematicIn(values(den), row(0)))+both(impl.SystematicIn(values(den), row(-1))), noMixture+noMixture)
	}
	long := values(2, repeated(1, impl.MaxItems)...)
	for i := range impl.MaxItems {
		order := upTo(0, 39)
		order[i] = int64(i+1) % 40
		expect(t, "one index twice", both(impl.SystematicIn(long, order)), noMixture)
		order[i] = 40
		expect(t, "one index that is not there", both(impl.SystematicIn(long, order)), noMixture)
	}
	expect(t, "41 indexes", both(impl.SystematicIn(long, upTo(0, 40)))+both(impl.SystematicIn(long, upTo(0, 38))), noMixture+noMixture)
}

func TestSystematicOfInvalidValuesFails(t *testing.T) {
	for _, v := range invalidValues() {
		expect(t, "values "+shown(v), both(impl.SystematicMixture(v)), noMixture)
		for _, order := range [][]int64{ascending(v), nil, {}, {0}} {
			expect(t, "values in order "+shown(v, order), both(impl.SystematicIn(v, order)), noMixture)
		}
	}
}
