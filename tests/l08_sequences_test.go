package tests

import (
	"math"
	"slices"
	"testing"

	"loop.example/g01129/impl"
)

// The tests of this file are for promise 9: demands, sequences and their deviations.

func TestExamplesOfDeviations(t *testing.T) {
	demands, list := row(2, 1), row(0, 1, 0)
	expect(t, "sequence", shown(impl.IsSequence(demands, list)), "true")
	expect(t, "deviations", both(impl.DeviationsOf(demands, list)), "[[1 -1] [-1 1] [0 0]] true")
	expect(t, "greatest", both(impl.GreatestDeviation(demands, list)), "1 true")
	expect(t, "squares", both(impl.SquareDeviation(demands, list)), "4 true")
}

// allDemands returns all lists of at most MaxProducts numbers from 1 with a sum of at most most.
func allDemands(most int64) [][]int64 {
	var all [][]int64
	lists := [][]int64{{}}
	for range impl.MaxProducts {
		var longer [][]int64
		for _, list := range lists {
			for n := int64(1); n <= most-sumOf(list); n++ {
				longer = append(longer, append(slices.Clone(list), n))
			}
		}
		lists = longer
		all = append(all, lists...)
	}
	return all
}

// ways returns how many sequences there are for demands.
func ways(demands []int64) int64 {
	ways, size := int64(1), int64(0)
	for _, demand := range demands {
		for n := range demand {
			size++
			ways = ways * size / (n + 1)
		}
	}
	return ways
}

// fewDemands returns demands with so few sequences that all of them can be tried.
func fewDemands() [][]int64 {
	isMany := func(demands []int64) bool { return ways(demands) > 800 }
	return append(slices.DeleteFunc(allDemands(9), isMany), row(1, 1, 4, 4), row(4, 1, 4, 1), row(5, 5), row(6, 6), row(2, 9), row(12, 2), row(30, 1), row(1, 40), row(9, 3), row(40), row(23))
}

// sequencesOf returns all sequences for demands, in lexicographic order.
func sequencesOf(demands []int64) [][]int64 {
	if sumOf(demands) == 0 {
		return [][]int64{{}}
	}
	var all [][]int64
	for product, demand := range demands {
		if demand == 0 {
			continue
		}
		rest := slices.Clone(demands)
		rest[product]--
		for _, behind := range sequencesOf(rest) {
			all = append(all, append(row(int64(product)), behind...))
		}
	}
	return all
}

// standsIn returns how many elements of a list are a product.
func standsIn(list []int64, product int64) int64 {
	count := int64(0)
	for _, n := range list {
		if n == product {
			count++
		}
	}
	return count
}

// deviationsBy counts each product anew behind each element.
func deviationsBy(demands, list []int64) [][]int64 {
	var rows [][]int64
	for k := 1; k <= len(list); k++ {
		var deviations []int64
		for product, demand := range demands {
			deviations = append(deviations, sumOf(demands)*standsIn(list[:k], int64(product))-int64(k)*demand)
		}
		rows = append(rows, deviations)
	}
	return rows
}

// leastAndGreatest returns the least and the greatest one of deviations, which are all 0 in the last row.
func leastAndGreatest(rows [][]int64) (int64, int64) {
	all := append(slices.Concat(rows...), 0)
	return slices.Min(all), slices.Max(all)
}

// greatestBy returns the greatest absolute value of the deviations of a sequence.
func greatestBy(demands, list []int64) int64 {
	least, greatest := leastAndGreatest(deviationsBy(demands, list))
	return max(-least, greatest)
}

// squaresBy returns the sum of the squares of the deviations of a sequence.
func squaresBy(demands, list []int64) int64 {
	sum := int64(0)
	for _, n := range slices.Concat(deviationsBy(demands, list)...) {
		sum += n * n
	}
	return sum
}

// deviations puts together all that is told of how far a sequence deviates.
func deviations(demands, list []int64) string {
	return shown(impl.IsSequence(demands, list)) + both(impl.DeviationsOf(demands, list)) + both(impl.GreatestDeviation(demands, list)) + both(impl.SquareDeviation(demands, list))
}

// noDeviations is what is told of a list that is no sequence.
var noDeviations = shown(false) + noRows + noNumber + noNumber

// checkDeviations checks all that is told of how far a sequence deviates.
func checkDeviations(t *testing.T, demands, list []int64) {
	t.Helper()
	want := shown(true) + both(deviationsBy(demands, list), true) + both(greatestBy(demands, list), true) + both(squaresBy(demands, list), true)
	expect(t, "deviations of "+shown(demands, list), deviations(demands, list), want)
}

func TestDeviationsOfAllSequences(t *testing.T) {
	for _, demands := range fewDemands() {
		all := sequencesOf(demands)
		expect(t, "sequences for "+shown(demands), shown(len(all), slices.IsSortedFunc(all, slices.Compare)), shown(ways(demands), true))
		for i, list := range all {
			if i%7 == 0 || i == len(all)-1 {
				checkDeviations(t, demands, list)
			}
		}
	}
}

// inAnyOrder returns a list in some order.
func (n *numbers) inAnyOrder(list []int64) []int64 {
	mixed := slices.Clone(list)
	for i := range mixed {
		k := n.next(int64(i), int64(len(mixed))-1)
		mixed[i], mixed[k] = mixed[k], mixed[i]
	}
	return mixed
}

// blocksOf returns the sequence in which each product stands as often as it is in demand, one behind the other.
func blocksOf(demands []int64) []int64 {
	var list []int64
	for product, demand := range demands {
		list = append(list, repeated(int64(product), int(demand))...)
	}
	return list
}

// states returns the product of all demands, each plus 1.
func states(demands []int64) int64 {
	product := int64(1)
	for _, demand := range demands {
		product *= demand + 1
	}
	return product
}

// anyDemands returns demands with count products.
func (n *numbers) anyDemands(count int) []int64 {
	for {
		demands := repeated(1, count)
		for i := range demands {
			demands[i] = n.next(1, n.next(1, impl.MaxDemand))
		}
		if states(demands) <= impl.MaxStates {
			return demands
		}
	}
}

// limitDemands are demands at the limits: of one product, MaxProducts, 1 and MaxDemand, and of MaxStates.
func limitDemands() [][]int64 {
	return [][]int64{
		{1}, {2}, {impl.MaxDemand - 1}, {impl.MaxDemand},
		{1, 1}, {1, 40}, {40, 1}, {39, 1}, {1, 39}, {40, 40}, {40, 39}, {39, 40}, {40, 40, 1}, {40, 1, 40}, {1, 40, 40},
		{1, 1, 1, 1, 1, 1}, {40, 1, 1, 1, 1, 1}, {1, 1, 1, 40, 1, 1}, {1, 1, 1, 1, 1, 40}, {2, 2, 2, 2, 2, 2}, {3, 3, 3, 3, 3, 3}, {40, 2, 1, 1, 1, 1}, {1, 2, 3, 4, 5, 5},
		{39, 24, 4}, {9, 9, 9, 4}, {4, 4, 4, 4, 7}, {1, 1, 1, 4, 4, 24}, {24, 4, 4, 1, 1, 1}, {24, 24, 7}, {1, 3, 24, 24}, {19, 9, 24}, {4, 4, 39, 4}, {1, 1, 4, 4, 4, 9},
		{1, 2, 4, 8, 16}, {16, 8, 4, 2, 1}, {4, 2, 1}, {8, 4, 2, 1}, {13, 13, 13}, {16, 16, 16}, {7, 7, 7, 7}, {4, 4, 4, 4, 4}, {30, 3, 3, 3}, {40, 5, 5, 2}, {1, 3, 3}, {3, 3, 1, 1, 1, 1},
	}
}

func TestDeviationsOfLongSequences(t *testing.T) {
	rule := numbers(31)
	all := limitDemands()
	for i := range 120 {
		all = append(all, rule.anyDemands(1+i%impl.MaxProducts))
	}
	for _, demands := range all {
		blocks := blocksOf(demands)
		back := slices.Clone(blocks)
		slices.Reverse(back)
		checkDeviations(t, demands, blocks)
		checkDeviations(t, demands, back)
		for range 3 {
			checkDeviations(t, demands, rule.inAnyOrder(blocks))
		}
	}
}

func TestDeviationsOfProductsThatAreNotTaken(t *testing.T) {
	// Product 2 does not stand among the first two elements, and product 0 not behind the first one.
	demands := row(1, 1, 2)
	expect(t, "late", both(impl.DeviationsOf(demands, row(0, 1, 2, 2))), "[[3 -1 -2] [2 2 -4] [1 1 -2] [0 0 0]] true")
	expect(t, "late, greatest", both(impl.GreatestDeviation(demands, row(0, 1, 2, 2))), "4 true")
	expect(t, "late, squares", both(impl.SquareDeviation(demands, row(0, 1, 2, 2))), "44 true")
	// Product 2 stands among the first two elements only, and product 1 at the last place only.
	expect(t, "early", both(impl.DeviationsOf(demands, row(2, 2, 0, 1))), "[[-1 -1 2] [-2 -2 4] [1 -3 2] [0 0 0]] true")
	expect(t, "early, greatest", both(impl.GreatestDeviation(demands, row(2, 2, 0, 1))), "4 true")
	expect(t, "early, squares", both(impl.SquareDeviation(demands, row(2, 2, 0, 1))), "44 true")
}

func TestGreatestDeviationsOfOneSign(t *testing.T) {
	demands := row(1, 1, 2)
	for _, test := range []struct {
		list                     []int64
		least, greatest, deviate int64
	}{
		{row(0, 1, 2, 2), -4, 3, 4}, {row(1, 0, 2, 2), -4, 3, 4}, {row(2, 2, 0, 1), -3, 4, 4}, {row(0, 2, 1, 2), -2, 3, 3}, {row(2, 0, 2, 1), -3, 2, 3}, {row(2, 0, 1, 2), -2, 2, 2},
	} {
		least, greatest := leastAndGreatest(deviationsBy(demands, test.list))
		expect(t, "ends of "+shown(test.list), shown(least, greatest), shown(test.least, test.greatest))
		expect(t, "greatest of "+shown(test.list), both(impl.GreatestDeviation(demands, test.list)), both(test.deviate, true))
	}
}

func TestDeviationsBehindTheLastElementAreZero(t *testing.T) {
	rule := numbers(32)
	for _, demands := range limitDemands() {
		rows, ok := impl.DeviationsOf(demands, rule.inAnyOrder(blocksOf(demands)))
		expect(t, "rows for "+shown(demands), shown(len(rows), ok), shown(sumOf(demands), true))
		for i, deviations := range rows {
			expect(t, "products for "+shown(demands), shown(len(deviations), sumOf(deviations)), shown(len(demands), 0))
			if i == len(rows)-1 {
				expect(t, "last row for "+shown(demands), shown(deviations), shown(repeated(0, len(demands))))
			}
		}
	}
}

func TestDeviationsOfOneProductAreZero(t *testing.T) {
	for n := range int64(impl.MaxDemand) {
		demands, list := row(n+1), repeated(0, int(n+1))
		expect(t, "one product", deviations(demands, list), shown(true)+both(square(0, int(n+1), 1), true)+"0 true0 true")
	}
}

func TestDemands(t *testing.T) {
	for n := range int64(impl.MaxDemand) {
		expect(t, "one product", shown(impl.ValidDemands(row(n+1))), "true")
	}
	for _, demands := range slices.Concat(limitDemands(), allDemands(9)) {
		expect(t, "demands "+shown(demands), shown(impl.ValidDemands(demands)), "true")
	}
	rule := numbers(33)
	for i := range 3000 {
		demands := rule.list(1+i%impl.MaxProducts, 1, rule.next(1, impl.MaxDemand))
		expect(t, "demands "+shown(demands), shown(impl.ValidDemands(demands)), shown(states(demands) <= impl.MaxStates))
	}
}

// list returns count numbers from low to high.
func (n *numbers) list(count int, low, high int64) []int64 {
	list := make([]int64, count)
	for i := range list {
		list[i] = n.next(low, high)
	}
	return list
}

func TestDemandsOfMaxStates(t *testing.T) {
	exact, just := 0, 0
	for _, demands := range allStates(1, impl.MaxStates+5) {
		switch states(demands) {
		case impl.MaxStates:
			exact++
			slices.Reverse(demands)
			expect(t, "MaxStates "+shown(demands), shown(impl.ValidDemands(demands)), "true")
		case impl.MaxStates + 5:
			just++
			expect(t, "just beyond "+shown(demands), shown(impl.ValidDemands(demands)), "false")
		}
	}
	expect(t, "exact and just beyond, next to which there is nothing", shown(exact, just), "21 2")
	expect(t, "just beyond", shown(impl.ValidDemands(row(4, 6, 10, 12)), impl.ValidDemands(row(34, 12, 10)), impl.ValidDemands(row(4, 6, 10, 11)), impl.ValidDemands(row(40, 40, 2))), "false false true false")
}

// allStates returns all demands in ascending order from a least one, with at most some states.
func allStates(least, most int64) [][]int64 {
	var all [][]int64
	for n := least; n <= min(impl.MaxDemand, most-1); n++ {
		all = append(all, row(n))
		for _, behind := range allStates(n, most/(n+1)) {
			if len(behind) < impl.MaxProducts {
				all = append(all, append(row(n), behind...))
			}
		}
	}
	return all
}

// noDemands are lists that are not demands.
func noDemands() [][]int64 {
	return [][]int64{
		nil, {}, {0}, {-1}, {impl.MaxDemand + 1}, {math.MinInt64}, {math.MaxInt64}, {0, 1}, {1, 0}, {2, 1, 0}, {0, 0}, {-1, 2}, {2, -1}, {-1, -1}, {-2, -3}, {41, 1}, {1, 41}, {1, 1, 41}, {1, 1, 1, 1, 1, 0}, {1, 1, 1, 1, 1, -1}, {1, 1, 1, 1, 1, 41},
		{1, 1, 1, 1, 1, 1, 1}, {1, 1, 1, 1, 1, 1, 0}, {2, 1, 1, 1, 1, 1, 1}, {40, 40, 2}, {40, 40, 40}, {2, 40, 40}, {40, 40, 1, 1}, {4, 6, 10, 12}, {34, 10, 12}, {17, 17, 17}, {4, 4, 4, 4, 8}, {4, 4, 4, 4, 4, 1}, {5, 5, 5, 5, 3}, {3, 3, 3, 3, 3, 4},
		repeated(40, 6), repeated(40, 7), repeated(1, 41), repeated(1, 3000), repeated(math.MaxInt64, 6), repeated(math.MinInt64, 6), {math.MaxInt64, 1}, {1, math.MaxInt64}, {math.MaxInt64, math.MaxInt64}, {math.MinInt64, 3}, {-3, -3, 2}, {1 << 32, 1 << 32}, {1<<32 - 1, 1<<32 - 1}, {-1, math.MaxInt64}, {math.MaxInt64, -1}, {-2, 40}, {-1, 40}, {1<<63 - 1, 1, 1},
	}
}

func TestListsThatAreNoDemandsFail(t *testing.T) {
	for _, demands := range noDemands() {
		expect(t, "demands "+shown(demands), shown(impl.ValidDemands(demands)), "false")
		for _, list := range [][]int64{nil, {}, {0}, {0, 1}, {0, 0, 1}, {1, 0}, repeated(0, len(demands)), upTo(0, int64(len(demands))-1), repeated(0, 41), blocksOfFew(demands)} {
			expect(t, "no demands "+shown(demands, list), deviations(demands, list), noDeviations)
		}
		expect(t, "no best "+shown(demands), three(impl.BestSequence(demands))+three(impl.LeastSquares(demands))+both(impl.NeedySequence(demands)), noBest+noBest+noList)
		for _, bound := range extremes() {
			expect(t, "no windows "+shown(demands, bound), windows(demands, bound), noWindows)
		}
	}
}

// blocksOfFew returns blocks of products in demand, at most 50 of each.
func blocksOfFew(demands []int64) []int64 {
	few := slices.Clone(demands)
	for i, n := range few {
		few[i] = min(max(n, 0), 50)
	}
	return blocksOf(few)
}

func TestAllListsThatAreSequences(t *testing.T) {
	for _, demands := range [][]int64{{1}, {2}, {3}, {1, 1}, {2, 1}, {1, 2}, {2, 2}, {1, 1, 1}, {1, 2, 1}, {1, 1, 1, 1}} {
		size, products := int(sumOf(demands)), int64(len(demands))
		isSequence := map[string]bool{}
		for _, list := range sequencesOf(demands) {
			isSequence[shown(list)] = true
		}
		found := 0
		for count := range size + 2 {
			for _, list := range allLists(count, products+1) {
				// The numbers are from -1 to the first one that is no product.
				for i := range list {
					list[i]--
				}
				want := isSequence[shown(list)]
				if want {
					found++
				}
				expect(t, "sequence "+shown(demands, list), shown(impl.IsSequence(demands, list)), shown(want))
				if !want {
					expect(t, "no sequence "+shown(demands, list), deviations(demands, list), noDeviations)
				}
			}
		}
		expect(t, "sequences for "+shown(demands), shown(found), shown(ways(demands)))
	}
}

func TestListsThatAreNoSequencesFail(t *testing.T) {
	rule := numbers(34)
	for _, demands := range limitDemands() {
		list := rule.inAnyOrder(blocksOf(demands))
		last, products := len(list)-1, int64(len(demands))
		wrong := [][]int64{nil, {}, list[:last], append(slices.Clone(list), 0), append(slices.Clone(list), list...), append(slices.Clone(list), products), append(slices.Clone(list), -1), append(row(products-1), list...), append(slices.Clone(list), repeated(0, 3000)...)}
		for _, n := range []int64{-1, -2, products, products + 1, impl.MaxProducts, 7, 256, 1 << 32, math.MinInt64, math.MaxInt64} {
			// At the index of a product beyond the demands, no product is missed.
			for _, place := range []int{0, last / 2, last} {
				other := slices.Clone(list)
				other[place] = n
				if n != list[place] && !(n >= 0 && n < products) {
					wrong = append(wrong, other)
				}
			}
		}
		for place, product := range list[:min(len(list), 8)] {
			// One product too often, and another one not often enough.
			if products > 1 {
				other := slices.Clone(list)
				other[place] = (product + 1) % products
				wrong = append(wrong, other)
			}
		}
		for _, other := range wrong {
			expect(t, "no sequence "+shown(demands, other), deviations(demands, other), noDeviations)
		}
		expect(t, "sequence "+shown(demands), shown(impl.IsSequence(demands, list)), "true")
	}
}
