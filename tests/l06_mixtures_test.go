package tests

import (
	"math"
	"math/big"
	"slices"
	"testing"

	"loop.example/g01129/impl"
)

// The tests of this file are for promise 7: mixtures.

// noMixture and noSums are what functions that return a mixture, or two lists, must return if they fail.
var (
	noMixture = shown(impl.Mixture{}, false)
	noSums    = shown([]int64{}, []int64{}, false)
)

// mixture makes a mixture of weights and lists.
func mixture(weights []int64, lists ...[]int64) impl.Mixture {
	return impl.Mixture{Weights: weights, Lists: lists}
}

// countedLists returns lists of one number, the numbers from 0 on.
func countedLists(count int64) [][]int64 {
	var lists [][]int64
	for n := range count {
		lists = append(lists, row(n))
	}
	return lists
}

// negatedLists returns lists with all numbers negated.
func negatedLists(lists [][]int64) [][]int64 {
	var others [][]int64
	for _, list := range lists {
		others = append(others, negated(list))
	}
	return others
}

// validMixtures reach the limits of mixtures, or are ordinary ones.
func validMixtures() []impl.Mixture {
	all := []impl.Mixture{
		mixture(row(1), nil), mixture(row(1), row()), mixture(row(impl.MaxWeight), nil), mixture(row(1), row(0)), mixture(row(7), row(3, -5)),
		mixture(row(1, 1), row(0), row(1)), mixture(row(1, 2), row(1, 0), row(0, 1)), mixture(row(2, 1, 3), row(0, 1, 1), row(1, 0, 1), row(1, 1, 0)),
		mixture(row(1, 1), row(impl.MaxNum), row(-impl.MaxNum)), mixture(row(impl.MaxWeight-1, 1), row(impl.MaxNum), row(-impl.MaxNum)), mixture(row(500000, 500000), row(1, 2), row(2, 1)),
		mixture(row(5, 4, 3), row(1, 12), row(11, 2), row(112, 0)), mixture(row(1, 1), row(-1, 1), row(1, -1)), mixture(row(3, 3, 3), row(-7, 2), row(-2, -3), row(0, -5)),
		mixture(row(impl.MaxWeight), repeated(impl.MaxNum, impl.MaxItems)), mixture(row(400000, 600000), repeated(impl.MaxNum, impl.MaxItems), repeated(-impl.MaxNum, impl.MaxItems)),
		mixture(repeated(1, impl.MaxLists), countedLists(impl.MaxLists)...), mixture(repeated(impl.MaxWeight/impl.MaxLists, impl.MaxLists), negatedLists(countedLists(impl.MaxLists))...),
		mixture(row(1, 1), upTo(0, 39), upTo(1, 40)), mixture(append(repeated(1, 63), impl.MaxWeight-63), countedLists(impl.MaxLists)...),
	}
	last := mixture(row(1, 2), repeated(5, impl.MaxItems), repeated(5, impl.MaxItems))
	last.Lists[1][impl.MaxItems-1] = -5
	all = append(all, last)
	rule := numbers(21)
	for range 120 {
		all = append(all, rule.anyMixture())
	}
	return all
}

// anyMixture returns a mixture of a few different lists with numbers that are often the same.
func (n *numbers) anyMixture() impl.Mixture {
	var m impl.Mixture
	length, count, most := n.next(1, 5), n.next(1, 12), n.next(1, 6)
	for range count {
		var list []int64
		for range length {
			list = append(list, n.next(-most, most))
		}
		if slices.ContainsFunc(m.Lists, func(other []int64) bool { return slices.Equal(list, other) }) {
			continue
		}
		m.Lists = append(m.Lists, list)
		m.Weights = append(m.Weights, n.next(1, 9))
	}
	return m
}

// invalidMixtures pass one limit of mixtures, or have extreme numbers.
func invalidMixtures() []impl.Mixture {
	all := []impl.Mixture{
		{}, mixture(row(1)), mixture(row(1, 1)), mixture(nil, row(1)), mixture(nil, nil), mixture(row(), row()), mixture(row(1), row(1), row(2)), mixture(row(1, 1), row(1)), mixture(row(1, 1), nil), mixture(row(1, 1, 1), row(1), row(2)),
		mixture(row(1, 1), nil, nil), mixture(row(1, 1), nil, row()), mixture(row(1, 1), row(1), row(1)), mixture(row(1, 2, 3), row(1, 2), row(3, 4), row(1, 2)), mixture(row(1, 2, 3), row(1, 2), row(3, 4), row(3, 4)),
		mixture(row(1, 1), row(1), row(1, 2)), mixture(row(1, 1), row(1, 2), row(1)), mixture(row(1, 1), nil, row(1)), mixture(row(1, 1), row(1), nil), mixture(row(1, 1, 1), row(1, 1), row(1, 2), row(1, 2, 0)),
		mixture(row(0), row(1)), mixture(row(-1), row(1)), mixture(row(1, 0), row(1), row(2)), mixture(row(2, -1), row(1), row(2)), mixture(row(0, 0), row(1), row(2)), mixture(row(0), nil),
		mixture(row(impl.MaxWeight+1), row(1)), mixture(row(impl.MaxWeight, 1), row(1), row(2)), mixture(row(500000, 500001), row(1), row(2)), mixture(row(impl.MaxWeight+1, -1), row(1), row(2)), mixture(row(impl.MaxWeight+1), nil),
		mixture(row(math.MaxInt64), row(1)), mixture(row(math.MinInt64), row(1)), mixture(row(math.MaxInt64, math.MaxInt64, 3), row(1), row(2), row(3)), mixture(row(math.MinInt64, math.MinInt64, 1), row(1), row(2), row(3)),
		mixture(row(1), row(impl.MaxNum+1)), mixture(row(1), row(-impl.MaxNum-1)), mixture(row(1, 1), row(0, 0), row(0, impl.MaxNum+1)), mixture(row(1, 1), row(-impl.MaxNum-1, 0), row(0, 0)),
		mixture(row(1), row(math.MaxInt64)), mixture(row(1), row(math.MinInt64)), mixture(row(1), repeated(0, impl.MaxItems+1)), mixture(row(1, 1), repeated(0, 41), repeated(1, 41)), mixture(row(1), repeated(1, 3000)),
		mixture(repeated(1, impl.MaxLists+1), countedLists(impl.MaxLists+1)...), mixture(repeated(1, 3000), countedLists(3000)...), mixture(repeated(1, impl.MaxLists), countedLists(impl.MaxLists+1)...), mixture(repeated(1, impl.MaxLists+1), countedLists(impl.MaxLists)...),
		mixture(append(repeated(1, 63), impl.MaxWeight-62), countedLists(impl.MaxLists)...), mixture(repeated(1, impl.MaxLists), append(countedLists(impl.MaxLists-1), row(0))...), mixture(repeated(1, 3000), slices.Repeat([][]int64{nil}, 3000)...),
	}
	return all
}

func TestValidMixture(t *testing.T) {
	for _, m := range validMixtures() {
		expect(t, "valid "+shown(m), shown(impl.ValidMixture(m)), "true")
	}
	for _, m := range invalidMixtures() {
		expect(t, "valid "+shown(m), shown(impl.ValidMixture(m)), "false")
	}
}

func TestListsWithTheSameDigitsAreDifferent(t *testing.T) {
	expect(t, "1, 12 and 11, 2", shown(impl.ValidMixture(mixture(row(1, 1), row(1, 12), row(11, 2)))), "true")
	expect(t, "signs", shown(impl.ValidMixture(mixture(row(1, 1, 1, 1), row(1, -1), row(-1, 1), row(1, 1), row(-1, -1)))), "true")
	expect(t, "orders", shown(impl.ValidMixture(mixture(row(1, 1), row(1, 2), row(2, 1)))), "true")
	expect(t, "last numbers", shown(impl.ValidMixture(mixture(row(1, 1), row(0, 0, 0), row(0, 0, 1)))), "true")
}

func TestFunctionsOfInvalidMixturesFail(t *testing.T) {
	for _, m := range invalidMixtures() {
		what := shown(m)
		for _, v := range []impl.Values{values(1), values(1, 1), values(1, 1, 2), values(2, 3), {}} {
			expect(t, "of values "+what, shown(impl.IsMixtureOf(m, v)), "false")
		}
		expect(t, "means "+what, both(impl.MixtureMeans(m)), noValues)
		expect(t, "sums "+what, three(impl.SumWeights(m)), noSums)
		for _, n := range []int64{-1, 0, 1, math.MinInt64, math.MaxInt64} {
			expect(t, "ticket "+what, both(impl.DrawFrom(m, n)), noList)
			expect(t, "pair "+what, both(impl.PairWeight(m, n, 1, 0, 1))+both(impl.PairWeight(m, 0, 1, n, 1))+both(impl.PairWeight(m, n, 1, n, 1)), noNumber+noNumber+noNumber)
		}
	}
}

// totalOf returns the total of a mixture.
func totalOf(m impl.Mixture) int64 { return sumOf(m.Weights) }

// meanAt returns the mean of a mixture at an index.
func meanAt(m impl.Mixture, i int) *big.Rat {
	sum := new(big.Rat)
	for n, list := range m.Lists {
		sum.Add(sum, big.NewRat(m.Weights[n]*list[i], totalOf(m)))
	}
	return sum
}

// meansText returns what MixtureMeans must return: the least denominator is the least one of which all are divisors.
func meansText(m impl.Mixture) string {
	den := big.NewInt(1)
	var means []*big.Rat
	for i := range m.Lists[0] {
		mean := meanAt(m, i)
		means = append(means, mean)
		common := new(big.Int).GCD(nil, nil, den, mean.Denom())
		den = new(big.Int).Div(new(big.Int).Mul(den, mean.Denom()), common)
	}
	v := impl.Values{Den: den.Int64()}
	for _, mean := range means {
		num := new(big.Rat).Mul(mean, new(big.Rat).SetInt(den)).Num().Int64()
		if num > impl.MaxNum || num < -impl.MaxNum {
			return noValues
		}
		v.Nums = append(v.Nums, num)
	}
	if v.Den > impl.MaxDen {
		return noValues
	}
	return both(v, true)
}

func TestMixtureMeans(t *testing.T) {
	failures := 0
	for _, m := range validMixtures() {
		want := meansText(m)
		expect(t, "means "+shown(m), both(impl.MixtureMeans(m)), want)
		if want == noValues {
			failures++
		}
	}
	if failures == 0 || failures > 20 {
		t.Errorf("%d mixtures have no valid means", failures)
	}
	expect(t, "no numbers", both(impl.MixtureMeans(mixture(row(1), nil)))+both(impl.MixtureMeans(mixture(row(impl.MaxWeight), nil))), "{1 []} true{1 []} true")
	expect(t, "one list", both(impl.MixtureMeans(mixture(row(9), row(3, -5, 0)))), "{1 [3 -5 0]} true")
	expect(t, "zeros", both(impl.MixtureMeans(mixture(row(4, 4), row(3, 0), row(-3, 0)))), "{1 [0 0]} true")
}

func TestMeansHaveTheLeastDenominator(t *testing.T) {
	expect(t, "halves", both(impl.MixtureMeans(mixture(row(2, 2), row(0, 0), row(1, 3)))), "{2 [1 3]} true")
	// The means are 1/2 and 1/3, whose least denominator is greater than that of each of them.
	expect(t, "of all together", both(impl.MixtureMeans(mixture(row(2, 1, 3), row(1, 1), row(1, 0), row(0, 0)))), "{6 [3 2]} true")
	expect(t, "less than the total", both(impl.MixtureMeans(mixture(row(4, 2, 6), row(1, 1), row(1, 0), row(0, 0)))), "{6 [3 2]} true")
	expect(t, "halves and fourths", both(impl.MixtureMeans(mixture(row(2, 2, 4), row(1, 1), row(0, 1), row(0, 0)))), "{4 [1 2]} true")
	expect(t, "an integer beside it", both(impl.MixtureMeans(mixture(row(3, 9), row(5, 1), row(5, 2)))), "{4 [20 7]} true")
	expect(t, "a 0 beside it", both(impl.MixtureMeans(mixture(row(3, 9), row(0, 1), row(0, 2)))), "{4 [0 7]} true")
	expect(t, "negative", both(impl.MixtureMeans(mixture(row(3, 9), row(-5, -1), row(-1, 2)))), "{4 [-8 5]} true")
	expect(t, "negative alone", both(impl.MixtureMeans(mixture(row(6, 2), row(-1), row(0)))), "{4 [-3]} true")
	expect(t, "a large total", both(impl.MixtureMeans(mixture(row(999000, 1000), row(0), row(1)))), "{1000 [1]} true")
}

func TestMeansThatAreNoValidValues(t *testing.T) {
	expect(t, "MaxDen", both(impl.MixtureMeans(mixture(row(1, impl.MaxDen-1), row(1), row(0)))), "{1000 [1]} true")
	expect(t, "beyond MaxDen", both(impl.MixtureMeans(mixture(row(1, impl.MaxDen), row(1), row(0)))), noValues)
	expect(t, "beyond MaxDen in lowest terms", both(impl.MixtureMeans(mixture(row(2, 2*impl.MaxDen), row(1), row(0)))), noValues)
	expect(t, "MaxWeight", both(impl.MixtureMeans(mixture(row(1, impl.MaxWeight-1), row(1), row(0)))), noValues)
	// 1/25 and 1/41 are valid, but have the least denominator 1025.
	two := mixture(row(25, 41, 959), row(0, 1), row(1, 0), row(0, 0))
	expect(t, "beyond MaxDen together", both(impl.MixtureMeans(two)), noValues)
	expect(t, "the first one alone", both(impl.MixtureMeans(mixture(row(41, 984), row(1), row(0)))), "{25 [1]} true")
	expect(t, "the second one alone", both(impl.MixtureMeans(mixture(row(25, 1000), row(1), row(0)))), "{41 [1]} true")
	expect(t, "numerators up to MaxNum", both(impl.MixtureMeans(mixture(row(2, 1), row(333333), row(333334))))+both(impl.MixtureMeans(mixture(row(2, 1), row(-333333), row(-333334)))), "{3 [1000000]} true{3 [-1000000]} true")
	expect(t, "numerators beyond MaxNum", both(impl.MixtureMeans(mixture(row(1, 2), row(333333), row(333334))))+both(impl.MixtureMeans(mixture(row(1, 2), row(-333333), row(-333334)))), noValues+noValues)
	expect(t, "MaxNum itself", both(impl.MixtureMeans(mixture(row(impl.MaxWeight), row(impl.MaxNum, -impl.MaxNum)))), "{1 [1000000 -1000000]} true")
	// An integer has a numerator beyond MaxNum with the denominator that another mean needs.
	expect(t, "MaxNum beside a half", both(impl.MixtureMeans(mixture(row(1, 1), row(impl.MaxNum, 0), row(impl.MaxNum, 1)))), noValues)
	expect(t, "half of MaxNum beside a half", both(impl.MixtureMeans(mixture(row(1, 1), row(500000, 0), row(500000, 1)))), "{2 [1000000 1]} true")
}

func TestIsMixtureOf(t *testing.T) {
	m := mixture(row(1, 1), row(0, 1, 0), row(1, 0, 1))
	for _, v := range []impl.Values{values(2, 1, 1, 1), values(4, 2, 2, 2), values(1000, 500, 500, 500)} {
		expect(t, "means "+shown(v), shown(impl.IsMixtureOf(m, v)), "true")
	}
	for _, v := range []impl.Values{
		values(2, 1, 1, 3), values(2, 1, 1, -1), values(2, 1, 1, 2), values(2, 1, 1, 0), values(3, 1, 1, 1), values(3, 1, 2, 1), values(1000, 500, 501, 500), values(1, 1, 1, 1), values(1, 0, 0, 0),
		values(2, 1, 1), values(2, 1, 1, 1, 1), values(2, 1, 1, 1, 0), values(2), values(1), {}, values(0, 0, 0, 0), values(-2, -1, -1, -1), values(1002, 501, 501, 501), values(2000, 1000, 1000, 1000), values(math.MinInt64, 1, 1, 1), values(2, math.MaxInt64, 1, 1),
	} {
		expect(t, "other values "+shown(v), shown(impl.IsMixtureOf(m, v)), "false")
	}
}

func TestIsMixtureOfListsThatAreNoRoundings(t *testing.T) {
	expect(t, "0 and 2 have the mean 1", shown(impl.IsMixtureOf(mixture(row(1, 1), row(0), row(2)), values(1, 1))), "false")
	expect(t, "-1 and 2 have the mean 1/2", shown(impl.IsMixtureOf(mixture(row(1, 1), row(-1), row(2)), values(2, 1))), "false")
	expect(t, "only the last list is none", shown(impl.IsMixtureOf(mixture(row(1, 4, 1), row(0), row(1), row(2)), values(1, 1))), "false")
	expect(t, "a number beside it", shown(impl.IsMixtureOf(mixture(row(1, 1), row(0, 0), row(1, 2)), values(2, 1, 2)), impl.IsMixtureOf(mixture(row(1, 1), row(0, 1), row(1, 1)), values(2, 1, 2))), "false true")
	expect(t, "negative", shown(impl.IsMixtureOf(mixture(row(1, 3), row(-2), row(-1)), values(4, -5)), impl.IsMixtureOf(mixture(row(3, 1), row(-2), row(-1)), values(4, -5)), impl.IsMixtureOf(mixture(row(1, 3), row(-1), row(0)), values(4, -5))), "true false false")
}

func TestIsMixtureOfEdgeCases(t *testing.T) {
	none := mixture(row(5), nil)
	expect(t, "no numbers", shown(impl.IsMixtureOf(none, values(1)), impl.IsMixtureOf(none, values(impl.MaxDen)), impl.IsMixtureOf(none, values(0)), impl.IsMixtureOf(none, values(1001)), impl.IsMixtureOf(none, values(1, 0))), "true true false false false")
	expect(t, "one list", shown(impl.IsMixtureOf(mixture(row(9), row(3, -5)), values(1, 3, -5)), impl.IsMixtureOf(mixture(row(9), row(3, -5)), values(7, 21, -35)), impl.IsMixtureOf(mixture(row(9), row(3, -5)), values(7, 22, -35))), "true true false")
	// The total is neither a multiple nor a divisor of the denominator.
	expect(t, "other denominators", shown(impl.IsMixtureOf(mixture(row(3, 6), row(0), row(1)), values(6, 4)), impl.IsMixtureOf(mixture(row(3, 6), row(0), row(1)), values(6, 3)), impl.IsMixtureOf(mixture(row(4, 6), row(0), row(1)), values(15, 9))), "true false true")
	expect(t, "weights that are too even", shown(impl.IsMixtureOf(mixture(row(499999, 500001), row(0), row(1)), values(2, 1)), impl.IsMixtureOf(mixture(row(500000, 500000), row(0), row(1)), values(2, 1))), "false true")
	expect(t, "limits", shown(impl.IsMixtureOf(mixture(row(impl.MaxWeight), repeated(impl.MaxNum, 40)), values(1, repeated(impl.MaxNum, 40)...)), impl.IsMixtureOf(mixture(row(impl.MaxWeight), repeated(-impl.MaxNum, 40)), values(1, repeated(-impl.MaxNum, 40)...))), "true true")
	// Pairs of numbers may be drawn together or apart: the chance of each number alone counts.
	expect(t, "together and apart", shown(impl.IsMixtureOf(mixture(row(1, 1), row(0, 0), row(1, 1)), values(2, 1, 1)), impl.IsMixtureOf(mixture(row(1, 1), row(0, 1), row(1, 0)), values(2, 1, 1)), impl.IsMixtureOf(mixture(row(1, 1, 1, 1), row(0, 0), row(0, 1), row(1, 0), row(1, 1)), values(2, 1, 1))), "true true true")
}

func TestAMixtureOfRoundingsIsOneOfItsMeans(t *testing.T) {
	is, isNot := 0, 0
	for _, m := range validMixtures() {
		v, ok := impl.MixtureMeans(m)
		if !ok {
			continue
		}
		want := !slices.ContainsFunc(m.Lists, func(list []int64) bool { return !impl.IsRounding(v, list) })
		expect(t, "of its means "+shown(m), shown(impl.IsMixtureOf(m, v)), shown(want))
		if want {
			is++
		} else {
			isNot++
		}
		for i := range v.Nums {
			other := impl.Values{Den: v.Den, Nums: slices.Clone(v.Nums)}
			other.Nums[i]++
			expect(t, "of other means "+shown(m), shown(impl.IsMixtureOf(m, other)), "false")
		}
	}
	if is < 10 || isNot < 10 {
		t.Errorf("%d mixtures of their means, %d others", is, isNot)
	}
}

func TestDrawFromEachTicket(t *testing.T) {
	for _, m := range validMixtures() {
		first := int64(0)
		for n, list := range m.Lists {
			last := first + m.Weights[n] - 1
			for ticket := first; ticket <= last; ticket += 1 + m.Weights[n]/20 {
				expect(t, "ticket "+shown(ticket, m), both(impl.DrawFrom(m, ticket)), both(list, true))
			}
			expect(t, "first ticket "+shown(first, m), both(impl.DrawFrom(m, first)), both(list, true))
			expect(t, "last ticket "+shown(last, m), both(impl.DrawFrom(m, last)), both(list, true))
			first = last + 1
		}
		for _, ticket := range []int64{-1, first, first + 1, math.MinInt64, math.MaxInt64} {
			expect(t, "no ticket "+shown(ticket, m), both(impl.DrawFrom(m, ticket)), noList)
		}
	}
}

func TestDrawFromKeepsTheOrder(t *testing.T) {
	m := mixture(row(2, 1, 3), row(9), row(-4), row(0))
	var drawn []string
	for ticket := range int64(8) {
		drawn = append(drawn, both(impl.DrawFrom(m, ticket-1)))
	}
	expect(t, "tickets", shown(drawn), shown([]string{noList, "[9] true", "[9] true", "[-4] true", "[0] true", "[0] true", "[0] true", noList}))
	expect(t, "no numbers", both(impl.DrawFrom(mixture(row(2), nil), 1))+both(impl.DrawFrom(mixture(row(2), nil), 2)), "[] true"+noList)
}

// pairWeight adds the weights of all lists with a at the index i and b at the index j.
func pairWeight(m impl.Mixture, i, a, j, b int64) int64 {
	weight := int64(0)
	for n, list := range m.Lists {
		if list[i] == a && list[j] == b {
			weight += m.Weights[n]
		}
	}
	return weight
}

func TestPairWeight(t *testing.T) {
	for _, m := range validMixtures() {
		if len(m.Lists) > 12 || len(m.Lists[0]) > 5 {
			continue
		}
		length := int64(len(m.Lists[0]))
		for i := range length {
			for j := range length {
				for a := int64(-6); a <= 6; a++ {
					for b := int64(-6); b <= 6; b++ {
						expect(t, "pair "+shown(i, a, j, b, m), both(impl.PairWeight(m, i, a, j, b)), both(pairWeight(m, i, a, j, b), true))
					}
				}
			}
		}
	}
}

func TestPairWeightOfSomeMixtures(t *testing.T) {
	m := mixture(row(1, 2, 4), row(0, 1, 1), row(1, 0, 1), row(0, 0, -1))
	expect(t, "several lists", both(impl.PairWeight(m, 2, 1, 2, 1))+both(impl.PairWeight(m, 0, 0, 0, 0))+both(impl.PairWeight(m, 1, 0, 1, 0)), "3 true5 true6 true")
	expect(t, "one list", both(impl.PairWeight(m, 0, 0, 1, 1))+both(impl.PairWeight(m, 1, 1, 0, 0))+both(impl.PairWeight(m, 2, -1, 0, 0)), "1 true1 true4 true")
	expect(t, "no list", both(impl.PairWeight(m, 0, 1, 1, 1))+both(impl.PairWeight(m, 0, 2, 1, 1))+both(impl.PairWeight(m, 2, 0, 0, 0)), "0 true0 true0 true")
	expect(t, "the same index", both(impl.PairWeight(m, 0, 1, 0, 1))+both(impl.PairWeight(m, 0, 1, 0, 0))+both(impl.PairWeight(m, 0, 0, 0, 1)), "2 true0 true0 true")
	expect(t, "any numbers", both(impl.PairWeight(m, 0, math.MaxInt64, 1, 1))+both(impl.PairWeight(m, 0, 0, 1, math.MinInt64))+both(impl.PairWeight(m, 0, impl.MaxNum+1, 0, impl.MaxNum+1)), "0 true0 true0 true")
	for _, i := range []int64{-1, 3, 4, 40, 63, 64, math.MinInt64, math.MaxInt64, math.MaxInt64 - 63, 1 << 32} {
		expect(t, "no index "+shown(i), both(impl.PairWeight(m, i, 0, 0, 0))+both(impl.PairWeight(m, 0, 0, i, 0))+both(impl.PairWeight(m, i, 0, i, 0)), noNumber+noNumber+noNumber)
	}
	none := mixture(row(4), nil)
	expect(t, "no numbers", both(impl.PairWeight(none, 0, 0, 0, 0))+both(impl.PairWeight(none, -1, 0, -1, 0)), noNumber+noNumber)
	wide := mixture(row(400000, 600000), repeated(impl.MaxNum, impl.MaxItems), repeated(-impl.MaxNum, impl.MaxItems))
	expect(t, "limits", both(impl.PairWeight(wide, 39, impl.MaxNum, 0, impl.MaxNum))+both(impl.PairWeight(wide, 39, -impl.MaxNum, 39, -impl.MaxNum))+both(impl.PairWeight(wide, 40, 0, 0, 0)), "400000 true600000 true"+noNumber)
}

// sumsAndWeights goes through all sums that lists can have, from the least one on.
func sumsAndWeights(m impl.Mixture) ([]int64, []int64) {
	var sums, weights []int64
	for _, list := range m.Lists {
		sums = append(sums, sumOf(list))
	}
	slices.Sort(sums)
	sums = slices.Compact(sums)
	for _, sum := range sums {
		weight := int64(0)
		for n, list := range m.Lists {
			if sumOf(list) == sum {
				weight += m.Weights[n]
			}
		}
		weights = append(weights, weight)
	}
	return sums, weights
}

func TestSumWeights(t *testing.T) {
	fewer := 0
	for _, m := range validMixtures() {
		sums, weights := sumsAndWeights(m)
		expect(t, "sums "+shown(m), three(impl.SumWeights(m)), shown(sums, weights, true))
		if len(sums) < len(m.Lists) {
			fewer++
		}
	}
	if fewer < 20 {
		t.Errorf("only %d mixtures have lists with equal sums", fewer)
	}
}

func TestSumWeightsOfSomeMixtures(t *testing.T) {
	expect(t, "in increasing order", three(impl.SumWeights(mixture(row(1, 2, 3, 4), row(9), row(-4), row(0), row(-12)))), "[-12 -4 0 9] [4 2 3 1] true")
	expect(t, "equal sums", three(impl.SumWeights(mixture(row(1, 2, 4, 8), row(1, 2), row(0, 0), row(2, 1), row(-5, 8)))), "[0 3] [2 13] true")
	expect(t, "all sums are equal", three(impl.SumWeights(mixture(row(1, 2), row(1, 2), row(2, 1)))), "[3] [3] true")
	expect(t, "no numbers", three(impl.SumWeights(mixture(row(6), nil))), "[0] [6] true")
	expect(t, "greatest and least sum", three(impl.SumWeights(mixture(row(400000, 600000), repeated(impl.MaxNum, impl.MaxItems), repeated(-impl.MaxNum, impl.MaxItems)))), "[-40000000 40000000] [600000 400000] true")
	expect(t, "MaxLists sums", three(impl.SumWeights(mixture(repeated(1, 64), negatedLists(countedLists(64))...))), shown(upTo(-63, 0), repeated(1, 64), true))
}
