package tests

import (
	"math"
	"slices"
	"testing"

	"loop.example/g01129/impl"
)

// The tests of this file are for promise 11: systems, their imbalances and their discrepancies.

// noSystem and noDiscrepancy are what calls that fail must return.
var (
	noSystem      = shown(impl.System{}, false)
	noDiscrepancy = shown(0, 0, false)
)

// system makes a system of a number of points and of sets.
func system(points int64, sets ...int64) impl.System { return impl.System{Points: points, Sets: sets} }

// read returns the system with a text, which must have one.
func read(t *testing.T, text string) impl.System {
	t.Helper()
	x, ok := impl.ReadSystem(text)
	if !ok {
		t.Fatalf("no system %s", text)
	}
	return x
}

func TestExamplesOfSystems(t *testing.T) {
	x := read(t, "3:ab,bc,ac")
	expect(t, "three pairs", three(impl.DiscrepancyOf(x))+both(impl.DegreeOf(x)), "2 0 true2 true")
	expect(t, "a path and all points", three(impl.DiscrepancyOf(read(t, "4:ab,bc,cd,abcd"))), "0 5 true")
	list, most, ok := impl.SystemRounding(x, values(2, 1, 1, 1))
	expect(t, "rounding", shown(list, most/2, ok), "[0 0 0] 1 true")
	expect(t, "greatest error", shown(most), "2")
}

// pointsOf returns the points of a set in ascending order.
func pointsOf(set int64) []int64 {
	var points []int64
	for point := int64(0); set > 0; point++ {
		if set%2 == 1 {
			points = append(points, point)
		}
		set /= 2
	}
	return points
}

// coloursOf returns 1 for each point that is red, and -1 for each one that is blue.
func coloursOf(points, red int64) []int64 {
	colours := repeated(-1, int(points))
	for _, point := range pointsOf(red) {
		colours[point] = 1
	}
	return colours
}

// imbalancesBy returns the imbalances of all sets, as they are defined.
func imbalancesBy(x impl.System, red int64) []int64 {
	colours := coloursOf(x.Points, red)
	var list []int64
	for _, set := range x.Sets {
		list = append(list, sumAt(pointsOf(set), colours))
	}
	return list
}

// greatestIn returns the greatest absolute value of a list, 0 for none.
func greatestIn(list []int64) int64 {
	greatest := int64(0)
	for _, n := range list {
		greatest = max(greatest, n, -n)
	}
	return greatest
}

// discrepancyBy returns the discrepancy of a system, the least set red with it, and with how many sets red it is reached.
func discrepancyBy(x impl.System) (least, first int64, count int) {
	for red := range int64(1) << x.Points {
		greatest := greatestIn(imbalancesBy(x, red))
		if red == 0 || greatest < least {
			least, first, count = greatest, red, 0
		}
		if greatest == least {
			count++
		}
	}
	return least, first, count
}

// anySystem returns a system whose sets have few points or many, some of them none or all, and some of them the same.
func (n *numbers) anySystem(points, sets int64) impl.System {
	x := system(points)
	for range sets {
		set, few := int64(0), n.next(1, 4)
		for point := range points {
			if n.next(1, 5) <= few {
				set |= 1 << point
			}
		}
		switch n.next(1, 15) {
		case 1:
			set = 0
		case 2:
			set = 1<<points - 1
		case 3:
			if len(x.Sets) > 0 {
				set = x.Sets[n.next(0, int64(len(x.Sets))-1)]
			}
		}
		x.Sets = append(x.Sets, set)
	}
	return x
}

// limitSystems are systems at the limits.
func limitSystems() []impl.System {
	return []impl.System{
		system(0), {Sets: []int64{}}, system(0, 0), system(0, repeated(0, 12)...), system(1), system(1, 0), system(1, 1), system(1, 0, 1, 1, 0), system(1, repeated(1, 12)...),
		system(3), system(3, 0), system(3, 7), system(3, 0, 0, 7, 7), system(2, 3, 3, 3), system(4, 15, 1, 2, 4, 8), system(7), system(8), system(8, 255), system(8, repeated(0, 12)...),
		system(12), system(12, 0), system(12, 4095), system(12, 2048), system(12, 1), system(12, repeated(4095, 12)...), system(12, 1, 2, 4, 8, 16, 32, 64, 128, 256, 512, 1024, 2048), system(12, 1, 3, 7, 15, 31, 63, 127, 255, 511, 1023, 2047, 4095),
	}
}

// smallSystems are systems of at most 8 points: those at the limits, and many of others.
func smallSystems(seed uint64, count int) []impl.System {
	rule := numbers(seed)
	all := slices.DeleteFunc(limitSystems(), func(x impl.System) bool { return x.Points > impl.MaxTried })
	for i := range count {
		all = append(all, rule.anySystem(int64(i%9), rule.next(0, impl.MaxSets)))
	}
	return all
}

// largeSystems are systems of 9 to 12 points.
func largeSystems(seed uint64, count int) []impl.System {
	rule := numbers(seed)
	all := slices.DeleteFunc(limitSystems(), func(x impl.System) bool { return x.Points <= impl.MaxTried })
	for i := range count {
		all = append(all, rule.anySystem(9+int64(i%4), rule.next(1, impl.MaxSets)))
	}
	return append(all, rule.anySystem(impl.MaxPoints, impl.MaxSets))
}

// noSystems are systems that are not valid.
func noSystems() []impl.System {
	all := []impl.System{
		system(-1), system(13), system(-1, 0), system(13, 0), system(13, 1, 2), system(math.MinInt64), system(math.MaxInt64), system(math.MinInt64, 0), system(math.MaxInt64, 1), system(62, 1), system(63, 1), system(64, 1), system(-64, 0), system(1<<32, 0), system(1<<32+3, 1), system(3-1<<32, 1),
		system(0, repeated(0, 13)...), system(3, repeated(1, 13)...), system(12, repeated(4095, 13)...), system(12, repeated(0, 3000)...),
		system(0, 1), system(0, 0, 1), system(1, 2), system(3, 8), system(3, 7, 8), system(3, 8, 7), system(8, 256), system(12, 4096), system(12, append(repeated(4095, 11), 4096)...), system(11, 2048),
	}
	for _, points := range []int64{0, 1, 3, 8, 12} {
		for _, n := range []int64{-1, -2, -8, 1 << 32, 1<<32 + 1, -1 << 32, 1 << 62, math.MinInt64, math.MinInt64 + 1, math.MaxInt64} {
			all = append(all, system(points, n), system(points, 0, n), system(points, n, 0))
		}
	}
	return all
}

func TestValidSystem(t *testing.T) {
	for _, x := range slices.Concat(smallSystems(70, 200), largeSystems(71, 50)) {
		expect(t, "valid "+shown(x), shown(impl.ValidSystem(x)), "true")
	}
	for _, x := range noSystems() {
		expect(t, "not valid "+shown(x), shown(impl.ValidSystem(x)), "false")
	}
}

func TestSystemsThatAreNotValidFail(t *testing.T) {
	for _, x := range noSystems() {
		what := shown(x)
		expect(t, "imbalances "+what, both(impl.ImbalancesOf(x, 0)), noList)
		expect(t, "discrepancy "+what, three(impl.DiscrepancyOf(x)), noDiscrepancy)
		expect(t, "restricted "+what, both(impl.RestrictSystem(x, 0)), noSystem)
		expect(t, "hereditary "+what, both(impl.HereditaryOf(x))+shown(impl.IsUnimodular(x)), noNumber+"false")
		expect(t, "degree "+what, both(impl.DegreeOf(x)), noNumber)
		expect(t, "average "+what, three(impl.AverageImbalance(x)), noDiscrepancy)
		expect(t, "text "+what, both(impl.SystemText(x)), noText)
		for points := range 13 {
			v := values(2, repeated(1, points)...)
			expect(t, "errors "+what, both(impl.SetErrors(x, v, repeated(0, points))), noList)
			expect(t, "rounding "+what, three(impl.SystemRounding(x, v)), noRounding)
		}
	}
}

func TestImbalancesOfAllColourings(t *testing.T) {
	for _, x := range append(smallSystems(72, 150), largeSystems(73, 8)...) {
		for red := range int64(1) << x.Points {
			if got, ok := impl.ImbalancesOf(x, red); !ok || !slices.Equal(got, imbalancesBy(x, red)) {
				t.Errorf("imbalances of %v with %d red: got %v and %v", x, red, got, ok)
			}
		}
	}
}

func TestImbalancesOf(t *testing.T) {
	x := read(t, "5:-,abcde,a,e,bd,bd,ace")
	expect(t, "no points red", both(impl.ImbalancesOf(x, 0)), "[0 -5 -1 -1 -2 -2 -3] true")
	expect(t, "all points red", both(impl.ImbalancesOf(x, 31)), "[0 5 1 1 2 2 3] true")
	expect(t, "some points red", both(impl.ImbalancesOf(x, 3)), "[0 -1 1 -1 0 0 -1] true")
	expect(t, "no sets", both(impl.ImbalancesOf(system(3), 5)), "[] true")
	expect(t, "no points", both(impl.ImbalancesOf(system(0, 0, 0), 0)), "[0 0] true")
	expect(t, "neither", both(impl.ImbalancesOf(system(0), 0)), "[] true")
	expect(t, "MaxPoints", both(impl.ImbalancesOf(system(12, 4095), 4095))+both(impl.ImbalancesOf(system(12, 4095), 0)), "[12] true[-12] true")
}

// noSetsOf returns numbers that are no sets of some points.
func noSetsOf(points int64) []int64 {
	list := []int64{1 << points, 1<<points + 1, 2 << points, 1 << 32, 1<<32 + 1, 1 << 62, -1 << 32}
	for _, n := range extremes() {
		if n < 0 || n >= 1<<points {
			list = append(list, n)
		}
	}
	return list
}

func TestSetsOfPointsThatThereAreNotFail(t *testing.T) {
	for _, x := range append(smallSystems(74, 30), largeSystems(75, 4)...) {
		for _, n := range noSetsOf(x.Points) {
			what := shown(x, n)
			expect(t, "red "+what, both(impl.ImbalancesOf(x, n)), noList)
			expect(t, "restricted "+what, both(impl.RestrictSystem(x, n)), noSystem)
		}
	}
}

func TestDiscrepancyOfAllColourings(t *testing.T) {
	alone, together := 0, 0
	for _, x := range append(smallSystems(76, 500), largeSystems(77, 20)...) {
		least, red, count := discrepancyBy(x)
		expect(t, "discrepancy of "+shown(x), three(impl.DiscrepancyOf(x)), three(least, red, true))
		if count <= 2 {
			alone++
		} else {
			together++
		}
	}
	// With a colouring, that with the colours exchanged is as good, so there are at least two with a point.
	expect(t, "discrepancies reached by one pair and by several", shown(alone > 20, together > 100), "true true")
}

func TestDiscrepancyOf(t *testing.T) {
	for text, want := range map[string]string{
		"0:": "0 0 true", "0:-": "0 0 true", "0:-,-,-": "0 0 true", "3:": "0 0 true", "12:": "0 0 true", "3:-": "0 0 true", "12:-,-": "0 0 true",
		"1:a": "1 0 true", "1:a,-": "1 0 true", "3:abc": "1 1 true", "2:ab,ab,ab": "0 1 true", "3:c": "1 0 true", "3:bc": "0 2 true", "2:a,b": "1 0 true", "2:ab,a,b": "1 1 true",
		// Of the sets b and a, c, the first one is the lesser number.
		"3:ab,bc": "0 2 true", "4:ab,bc,cd": "0 5 true", "4:ad,bd,cd": "0 7 true", "5:ae,be,ce,de": "0 15 true", "4:ab,bc,cd,ad": "0 5 true", "5:ab,bc,cd,de,ae": "2 0 true",
		"12:abcdefghijkl": "0 63 true", "12:al": "0 1 true", "12:kl": "0 1024 true", "12:jkl": "1 512 true", "12:abcdefghijk": "1 31 true", "12:a,b,c,d,e,f,g,h,i,j,k,l": "1 0 true",
		"12:ab,bc,cd,de,ef,fg,gh,hi,ij,jk,kl,al": "0 1365 true", "11:ab,bc,cd,de,ef,fg,gh,hi,ij,jk,ak": "2 0 true",
		"4:ab,ac,ad,bc,bd,cd": "2 0 true", "6:abc,abd,abe,abf,cdef": "1 13 true", "7:abc,ade,afg,bdf,beg,cdg,cef": "3 0 true",
	} {
		expect(t, "discrepancy of "+text, three(impl.DiscrepancyOf(read(t, text))), want)
	}
}

func TestDiscrepancyIsThatOfOneColouringAndOfNoneBelow(t *testing.T) {
	for _, x := range append(smallSystems(78, 100), largeSystems(79, 8)...) {
		least, first, _ := impl.DiscrepancyOf(x)
		for red := range int64(1) << x.Points {
			list, _ := impl.ImbalancesOf(x, red)
			greatest := greatestIn(list)
			if greatest < least || greatest == least && red < first || red == first && greatest != least {
				t.Errorf("discrepancy of %v: %d with %d red, but %d with %d red", x, least, first, greatest, red)
			}
		}
	}
}

func TestDiscrepancyDoesNotDependOnTheOrderOfSets(t *testing.T) {
	rule := numbers(80)
	for _, x := range smallSystems(81, 100) {
		want := three(impl.DiscrepancyOf(x))
		other := system(x.Points, rule.inAnyOrder(x.Sets)...)
		expect(t, "in another order "+shown(x), three(impl.DiscrepancyOf(other)), want)
		if len(x.Sets) > 0 && len(x.Sets) < impl.MaxSets {
			expect(t, "a set more often "+shown(x), three(impl.DiscrepancyOf(system(x.Points, append(slices.Clone(x.Sets), x.Sets[0])...))), want)
			expect(t, "an empty set more "+shown(x), three(impl.DiscrepancyOf(system(x.Points, append(slices.Clone(x.Sets), 0)...))), want)
		}
	}
}

// averageBy adds up the squares of all imbalances over all colourings.
func averageBy(x impl.System) (int64, int64) {
	sum, count := int64(0), int64(0)
	for red := range int64(1) << x.Points {
		for _, n := range imbalancesBy(x, red) {
			sum += n * n
		}
		count++
	}
	return sum, count
}

func TestAverageImbalance(t *testing.T) {
	for text, want := range map[string]string{
		"0:": "0 1 true", "0:-,-": "0 1 true", "3:": "0 8 true", "12:": "0 4096 true", "3:-": "0 8 true", "1:a": "2 2 true", "2:ab": "8 4 true", "3:ab,bc,ac": "48 8 true", "3:abc,abc": "48 8 true",
		"12:abcdefghijkl": "49152 4096 true",
	} {
		expect(t, "average of "+text, three(impl.AverageImbalance(read(t, text))), want)
	}
	expect(t, "average of the largest", three(impl.AverageImbalance(system(12, repeated(4095, 12)...))), "589824 4096 true")
	for _, x := range append(smallSystems(82, 200), largeSystems(83, 8)...) {
		sum, count, ok := impl.AverageImbalance(x)
		wantSum, wantCount := averageBy(x)
		expect(t, "average of "+shown(x), shown(sum, count, ok), shown(wantSum, wantCount, true))
		sizes := int64(0)
		for _, set := range x.Sets {
			sizes += int64(len(pointsOf(set)))
		}
		expect(t, "numbers of points of "+shown(x), shown(sum), shown(sizes*count))
		// The sum of the squares of some colouring is at most the mean, and so is the square of its greatest imbalance.
		least, _, _ := impl.DiscrepancyOf(x)
		expect(t, "bound by the average "+shown(x), shown(least*least <= sizes), "true")
	}
}
