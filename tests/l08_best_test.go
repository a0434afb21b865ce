package tests

import (
	"slices"
	"testing"

	"loop.example/g01129/impl"
)

// The tests of this file are for promise 9: the best sequences, and the needy one.

func TestExamplesOfSequences(t *testing.T) {
	demands := row(2, 1)
	expect(t, "best", three(impl.BestSequence(demands)), "[0 1 0] 1 true")
	expect(t, "squares", three(impl.LeastSquares(demands)), "[0 1 0] 4 true")
	expect(t, "needy", both(impl.NeedySequence(demands)), "[0 1 0] true")
}

// firstLeast returns the first one of several lists for which count is least, count of it, and for how many it is.
func firstLeast(demands []int64, lists [][]int64, count func(demands, list []int64) int64) ([]int64, int64, int) {
	var first []int64
	least, several := int64(0), 0
	for i, list := range lists {
		n := count(demands, list)
		if i == 0 || n < least {
			first, least, several = list, n, 0
		}
		if n == least {
			several++
		}
	}
	return first, least, several
}

// checkAgainstAll compares what best returns with the first one of all sequences for which count is least.
func checkAgainstAll(t *testing.T, best func(demands []int64) ([]int64, int64, bool), count func(demands, list []int64) int64) {
	t.Helper()
	alone, together := 0, 0
	for _, demands := range fewDemands() {
		list, least, several := firstLeast(demands, sequencesOf(demands), count)
		expect(t, "least for "+shown(demands), three(best(demands)), three(list, least, true))
		if several == 1 {
			alone++
		} else {
			together++
		}
	}
	expect(t, "least ones alone and together", shown(alone > 20, together > 100), "true true")
}

func TestBestOfAllSequences(t *testing.T) { checkAgainstAll(t, impl.BestSequence, greatestBy) }

func TestLeastSquaresOfAllSequences(t *testing.T) { checkAgainstAll(t, impl.LeastSquares, squaresBy) }

// search looks for the first sequence, in lexicographic order, without a deviation beyond a bound.
type search struct {
	demands []int64
	bound   int64
	failed  map[string]bool
}

// isWithin reports whether the deviations behind some elements, in which products stand as often as made tells, are within the bound.
func (s *search) isWithin(made []int64) bool {
	for i, demand := range s.demands {
		if n := sumOf(s.demands)*made[i] - sumOf(made)*demand; n > s.bound || n < -s.bound {
			return false
		}
	}
	return true
}

// from returns the first sequence that goes on within the bound, and whether there is one. It changes made, but sets it back.
func (s *search) from(made []int64) ([]int64, bool) {
	key := shown(made)
	if s.failed[key] || !s.isWithin(made) {
		return nil, false
	}
	if slices.Equal(made, s.demands) {
		return nil, true
	}
	for i := range made {
		if made[i] == s.demands[i] {
			continue
		}
		made[i]++
		behind, ok := s.from(made)
		made[i]--
		if ok {
			return append(row(int64(i)), behind...), true
		}
	}
	s.failed[key] = true
	return nil, false
}

// firstWithin returns the first sequence without a deviation beyond a bound, and whether there is one.
func firstWithin(demands []int64, bound int64) ([]int64, bool) {
	s := &search{demands, bound, map[string]bool{}}
	return s.from(repeated(0, len(demands)))
}

// manyDemands are demands at the limits, and others with many sequences.
func manyDemands(seed uint64, count int) [][]int64 {
	rule := numbers(seed)
	all := limitDemands()
	for i := range count {
		all = append(all, rule.anyDemands(1+i%impl.MaxProducts))
	}
	return all
}

func TestNoSequenceIsBetterThanTheBest(t *testing.T) {
	for _, demands := range manyDemands(35, 150) {
		list, least, ok := impl.BestSequence(demands)
		expect(t, "best for "+shown(demands), shown(ok, greatestBy(demands, list)), shown(true, least))
		expect(t, "best for "+shown(demands), both(list, true), both(firstWithin(demands, least)))
		expect(t, "better for "+shown(demands), both(firstWithin(demands, least-1)), noList)
		// Known of just-in-time sequences: no product ever needs to be a whole element ahead or behind.
		expect(t, "less than one for "+shown(demands), shown(least < sumOf(demands)), "true")
	}
}

// grid has, for all amounts of products in the first elements, the least sum of squares from there on.
type grid struct {
	demands, strides, least []int64
}

// amountsAt returns the amounts at an index of a grid.
func (g *grid) amountsAt(index int64) []int64 {
	made := make([]int64, len(g.demands))
	for i, demand := range g.demands {
		made[i] = index / g.strides[i] % (demand + 1)
	}
	return made
}

// squaresAt returns the sum of the squares of the deviations with some amounts.
func (g *grid) squaresAt(made []int64) int64 {
	sum := int64(0)
	for i, demand := range g.demands {
		n := sumOf(g.demands)*made[i] - sumOf(made)*demand
		sum += n * n
	}
	return sum
}

// next returns the first product that one can take behind some amounts with the least sum, and this sum.
func (g *grid) next(index int64, made []int64) (int64, int64) {
	product, least := int64(-1), int64(0)
	for i, demand := range g.demands {
		if made[i] < demand && (product < 0 || g.least[index+g.strides[i]] < least) {
			product, least = int64(i), g.least[index+g.strides[i]]
		}
	}
	return product, least
}

// gridOf fills a grid from its last amounts to its first ones.
func gridOf(demands []int64) *grid {
	g := &grid{demands: demands}
	stride := int64(1)
	for _, demand := range demands {
		g.strides = append(g.strides, stride)
		stride *= demand + 1
	}
	g.least = make([]int64, stride)
	for index := stride - 1; index >= 0; index-- {
		made := g.amountsAt(index)
		_, least := g.next(index, made)
		g.least[index] = least + g.squaresAt(made)
	}
	return g
}

// leastSquaresBy returns the first sequence with the least sum of squares, and this.
func leastSquaresBy(demands []int64) ([]int64, int64) {
	g := gridOf(demands)
	var list []int64
	index := int64(0)
	for range sumOf(demands) {
		product, _ := g.next(index, g.amountsAt(index))
		list = append(list, product)
		index += g.strides[product]
	}
	return list, g.least[0]
}

func TestNoSequenceHasLesserSquares(t *testing.T) {
	for _, demands := range manyDemands(36, 150) {
		list, least := leastSquaresBy(demands)
		expect(t, "squares of the test for "+shown(demands), shown(squaresBy(demands, list)), shown(least))
		expect(t, "squares for "+shown(demands), three(impl.LeastSquares(demands)), three(list, least, true))
	}
}

func TestTheBestAndTheLeastSquaresCanBeDifferent(t *testing.T) {
	for _, test := range []struct {
		demands, best, squares []int64
		greatest, sum          int64
	}{
		{row(1, 1, 4, 4), row(2, 3, 0, 2, 3, 2, 3, 1, 2, 3), row(2, 3, 2, 3, 0, 1, 2, 3, 2, 3), 7, 490},
		{row(4, 1, 4, 1), row(0, 2, 1, 0, 2, 0, 2, 3, 0, 2), row(0, 2, 0, 2, 1, 3, 0, 2, 0, 2), 7, 490},
	} {
		expect(t, "best for "+shown(test.demands), three(impl.BestSequence(test.demands)), three(test.best, test.greatest, true))
		expect(t, "squares for "+shown(test.demands), three(impl.LeastSquares(test.demands)), three(test.squares, test.sum, true))
		expect(t, "the other measures", both(impl.GreatestDeviation(test.demands, test.squares))+both(impl.SquareDeviation(test.demands, test.best)), "8 true530 true")
	}
	// With the same greatest deviation, there can be several sequences, of which another one has the least squares.
	demands := row(1, 1, 1, 4, 4, 24)
	_, least, _ := impl.BestSequence(demands)
	list, _, _ := impl.LeastSquares(demands)
	expect(t, "many products", shown(least)+" "+both(impl.GreatestDeviation(demands, list)), "26 30 true")
}

func TestTheGreatestDeviationOfTheBestCanBeNegativeOnly(t *testing.T) {
	for _, test := range []struct {
		demands, list   []int64
		least, greatest int64
	}{
		{row(1, 3, 3), row(1, 2, 0, 1, 2, 1, 2), -5, 4}, {row(5, 1, 3), row(0, 2, 0, 1, 0, 2, 0, 0, 2), -6, 5}, {row(7, 1, 3), row(0, 2, 0, 0, 1, 0, 2, 0, 0, 2, 0), -7, 6},
	} {
		least, greatest := leastAndGreatest(deviationsBy(test.demands, test.list))
		expect(t, "ends for "+shown(test.demands), shown(least, greatest), shown(test.least, test.greatest))
		expect(t, "best for "+shown(test.demands), three(impl.BestSequence(test.demands)), three(test.list, -test.least, true))
	}
}

func TestSequencesOfOneProduct(t *testing.T) {
	for n := range int64(impl.MaxDemand) {
		demands, list := row(n+1), repeated(0, int(n+1))
		expect(t, "one product", three(impl.BestSequence(demands))+three(impl.LeastSquares(demands))+both(impl.NeedySequence(demands)), three(list, 0, true)+three(list, 0, true)+both(list, true))
	}
}

func TestSequencesOfEqualDemands(t *testing.T) {
	for products := int64(1); products <= impl.MaxProducts; products++ {
		for demand := int64(1); demand <= impl.MaxDemand; demand++ {
			demands := repeated(demand, int(products))
			if states(demands) > impl.MaxStates {
				break
			}
			// Each product stands once in each round, in which the product before the place k is ahead as much as those behind it are not.
			list := slices.Repeat(upTo(0, products-1), int(demand))
			sum := int64(0)
			for k := int64(1); k < products; k++ {
				sum += demand * demand * demand * products * k * (products - k)
			}
			expect(t, "equal demands "+shown(demands), three(impl.BestSequence(demands)), three(list, demand*(products-1), true))
			expect(t, "equal demands "+shown(demands), three(impl.LeastSquares(demands))+both(impl.NeedySequence(demands)), three(list, sum, true)+both(list, true))
		}
	}
}

// aloneAt returns a sequence of two products with size elements, in which one product stands once, at a place that is counted from 1.
func aloneAt(alone int64, size, place int) []int64 {
	list := repeated(1-alone, size)
	list[place-1] = alone
	return list
}

func TestSequencesOfADemandThatIsMuchGreater(t *testing.T) {
	for n := 1; n <= impl.MaxDemand; n++ {
		// The product that stands once is put in the middle, or behind it or before it if the middle lies between two places.
		first, second := row(1, int64(n)), row(int64(n), 1)
		least := int64(n+1) / 2
		before, behind := (n+2)/2, (n+3)/2
		if n%2 == 0 {
			before, behind = n/2+1, n/2+1
			least = int64(n) / 2
		}
		expect(t, "best for "+shown(first), three(impl.BestSequence(first)), three(aloneAt(0, n+1, before), least, true))
		expect(t, "best for "+shown(second), three(impl.BestSequence(second)), three(aloneAt(1, n+1, behind), least, true))
		squares := squaresBy(first, aloneAt(0, n+1, before))
		expect(t, "squares for "+shown(first), three(impl.LeastSquares(first)), three(aloneAt(0, n+1, before), squares, true))
		expect(t, "squares for "+shown(second), three(impl.LeastSquares(second)), three(aloneAt(1, n+1, behind), squares, true))
	}
	list, least, _ := impl.BestSequence(row(40, 1, 1, 1, 1, 1))
	expect(t, "five others", shown(list, least), shown(row(0, 0, 0, 0, 0, 0, 0, 1, 0, 0, 0, 0, 0, 0, 0, 0, 2, 0, 0, 0, 0, 0, 0, 0, 0, 3, 0, 0, 0, 0, 0, 0, 0, 0, 4, 0, 0, 5, 0, 0, 0, 0, 0, 0, 0), 37))
}

func TestSequencesOfPowers(t *testing.T) {
	// These are the demands of three and more products for which no deviation needs to be half of the sum.
	expect(t, "4, 2, 1", three(impl.BestSequence(row(4, 2, 1))), "[0 1 0 2 0 1 0] 3 true")
	expect(t, "1, 2, 4", three(impl.BestSequence(row(1, 2, 4))), "[2 1 2 0 2 1 2] 3 true")
	expect(t, "8, 4, 2, 1", three(impl.BestSequence(row(8, 4, 2, 1))), "[0 1 0 2 0 1 0 3 0 1 0 2 0 1 0] 7 true")
	_, least, ok := impl.BestSequence(row(16, 8, 4, 2, 1))
	expect(t, "16, 8, 4, 2, 1", both(least, ok), "15 true")
}

func TestSequencesOfDifferentOrdersOfDemands(t *testing.T) {
	rule := numbers(37)
	for range 60 {
		demands := rule.anyDemands(int(rule.next(2, impl.MaxProducts)))
		other := rule.inAnyOrder(demands)
		_, least, _ := impl.BestSequence(demands)
		_, sum, _ := impl.LeastSquares(demands)
		_, otherLeast, ok := impl.BestSequence(other)
		_, otherSum, isOther := impl.LeastSquares(other)
		expect(t, "order of "+shown(demands, other), shown(otherLeast, otherSum, ok, isOther), shown(least, sum, true, true))
	}
}

// needs are what NeedySequence meets: places with several products in equal need, and places where a product without demand is in greatest need.
type needs struct{ equal, done int }

// needyBy takes the product with the least deviation at each place, and counts each product anew.
func needyBy(demands []int64) ([]int64, needs) {
	var list []int64
	var met needs
	for k := int64(1); k <= sumOf(demands); k++ {
		var all, open []int64
		for product, demand := range demands {
			stands := standsIn(list, int64(product))
			deviation := sumOf(demands)*stands - k*demand
			all = append(all, deviation)
			if stands < demand {
				open = append(open, deviation)
			}
		}
		least := slices.Min(open)
		if slices.Min(all) != least {
			met.done++
		}
		if standsIn(open, least) > 1 {
			met.equal++
		}
		for product, deviation := range all {
			if deviation == least && standsIn(list, int64(product)) < demands[product] {
				list = append(list, int64(product))
				break
			}
		}
	}
	return list, met
}

func TestNeedySequences(t *testing.T) {
	equal := 0
	for _, demands := range slices.Concat(manyDemands(38, 400), allDemands(12)) {
		want, met := needyBy(demands)
		expect(t, "needy for "+shown(demands), both(impl.NeedySequence(demands)), both(want, true))
		expect(t, "needy sequence for "+shown(demands), shown(impl.IsSequence(demands, want)), "true")
		// The sum of all deviations is negative if none is taken, and that of a product without demand is not, so it is never in greatest need.
		expect(t, "products without demand in greatest need for "+shown(demands), shown(met.done), "0")
		if met.equal > 0 {
			equal++
		}
	}
	expect(t, "with equal needs", shown(equal > 300), "true")
}

func TestNeedySequencesWithEqualNeeds(t *testing.T) {
	expect(t, "equal", both(impl.NeedySequence(row(1, 1)))+both(impl.NeedySequence(row(2, 2)))+both(impl.NeedySequence(row(1, 1, 1))), "[0 1] true[0 1 0 1] true[0 1 2] true")
	expect(t, "equal later", both(impl.NeedySequence(row(1, 2, 1)))+both(impl.NeedySequence(row(1, 3, 1)))+both(impl.NeedySequence(row(2, 1, 2))), "[1 0 2 1] true[1 0 1 2 1] true[0 2 1 0 2] true")
	expect(t, "without demand at the end", both(impl.NeedySequence(row(3, 1)))+both(impl.NeedySequence(row(1, 5))), "[0 0 1 0] true[1 1 0 1 1 1] true")
}

func TestNeedySequencesThatAreNotTheBest(t *testing.T) {
	demands := row(1, 1, 1, 1, 3, 3)
	needy := row(4, 5, 0, 1, 2, 4, 5, 3, 4, 5)
	expect(t, "needy", both(impl.NeedySequence(demands))+both(impl.GreatestDeviation(demands, needy))+both(impl.SquareDeviation(demands, needy)), both(needy, true)+"8 true790 true")
	expect(t, "best", three(impl.BestSequence(demands)), "[4 5 0 1 4 5 2 3 4 5] 7 true")
	expect(t, "squares", three(impl.LeastSquares(demands)), "[4 5 0 1 4 5 2 3 4 5] 750 true")
}
