package tests

import (
	"math"
	"slices"
	"testing"

	"loop.example/g01129/impl"
)

// The tests of this file are for promise 11: restricted systems, degrees, and systems that are known.

// restrictedBy takes the points of a set one by one, and looks for each of them in all sets.
func restrictedBy(x impl.System, points int64) impl.System {
	some := pointsOf(points)
	part := system(int64(len(some)))
	for _, set := range x.Sets {
		of, bit, n := pointsOf(set), int64(1), int64(0)
		for _, point := range some {
			if slices.Contains(of, point) {
				n += bit
			}
			bit *= 2
		}
		part.Sets = append(part.Sets, n)
	}
	return part
}

func TestRestrictSystem(t *testing.T) {
	for _, test := range []struct {
		text   string
		points int64
		want   string
	}{
		{"3:ab,bc,ac", 5, "2:a,b,ab"}, {"3:ab,bc,ac", 7, "3:ab,bc,ac"}, {"3:ab,bc,ac", 0, "0:-,-,-"}, {"3:ab,bc,ac", 2, "1:a,a,-"}, {"3:ab,bc,ac", 4, "1:-,a,a"}, {"3:ab,bc,ac", 6, "2:a,ab,b"},
		{"0:", 0, "0:"}, {"0:-", 0, "0:-"}, {"4:", 10, "2:"}, {"4:-,abcd", 9, "2:-,ab"}, {"4:-,abcd", 0, "0:-,-"}, {"5:ace,bd,bd,e", 21, "3:abc,-,-,c"}, {"5:ace,bd,bd,e", 10, "2:-,ab,ab,-"}, {"6:f,af,abcdef", 33, "2:b,ab,ab"},
		{"12:al,l,bcdefghijk", 2049, "2:ab,b,-"}, {"12:al,l,bcdefghijk", 4095, "12:al,l,bcdefghijk"}, {"12:al,l,bcdefghijk", 2730, "6:f,f,abcde"},
	} {
		part, ok := impl.RestrictSystem(read(t, test.text), test.points)
		text, _ := impl.SystemText(part)
		expect(t, "restricted "+shown(test), shown(text, ok), shown(test.want, true))
	}
}

func TestRestrictionsToAllSetsOfPoints(t *testing.T) {
	for _, x := range append(smallSystems(84, 100), largeSystems(85, 6)...) {
		for points := range int64(1) << x.Points {
			got, ok := impl.RestrictSystem(x, points)
			if want := restrictedBy(x, points); !ok || got.Points != want.Points || !slices.Equal(got.Sets, want.Sets) {
				t.Errorf("%v restricted to %d: got %v and %v", x, points, got, ok)
			}
		}
		all := int64(1)<<x.Points - 1
		expect(t, "all points of "+shown(x), both(impl.RestrictSystem(x, all)), both(x, true))
		expect(t, "no points of "+shown(x), both(impl.RestrictSystem(x, 0)), both(system(0, repeated(0, len(x.Sets))...), true))
	}
}

// hereditaryBy returns the greatest discrepancy of a restricted system, and whether only smaller systems have it.
func hereditaryBy(x impl.System) (int64, bool) {
	greatest, whole := int64(0), int64(0)
	for points := range int64(1) << x.Points {
		whole, _, _ = discrepancyBy(restrictedBy(x, points))
		greatest = max(greatest, whole)
	}
	return greatest, whole < greatest
}

func TestHereditaryOfAllRestrictions(t *testing.T) {
	smaller, whole := 0, 0
	for _, x := range smallSystems(86, 300) {
		greatest, isSmaller := hereditaryBy(x)
		expect(t, "hereditary "+shown(x), both(impl.HereditaryOf(x))+shown(impl.IsUnimodular(x)), both(greatest, true)+shown(greatest <= 1))
		if isSmaller {
			smaller++
		} else {
			whole++
		}
	}
	expect(t, "discrepancies of smaller systems and of whole ones", shown(smaller > 50, whole > 50), "true true")
}

func TestNoRestrictionHasAGreaterDiscrepancy(t *testing.T) {
	for _, x := range smallSystems(87, 100) {
		greatest, _ := impl.HereditaryOf(x)
		isReached := false
		for points := range int64(1) << x.Points {
			part, _ := impl.RestrictSystem(x, points)
			discrepancy, _, _ := impl.DiscrepancyOf(part)
			isReached = isReached || discrepancy == greatest
			if discrepancy > greatest {
				t.Errorf("hereditary discrepancy of %v: %d, but %d of %v", x, greatest, discrepancy, part)
			}
		}
		expect(t, "reached "+shown(x), shown(isReached), "true")
	}
}

func TestHereditaryOf(t *testing.T) {
	for text, want := range map[string]string{
		"0:": "0 true true", "0:-,-": "0 true true", "3:": "0 true true", "8:": "0 true true", "3:-": "0 true true", "8:-,-": "0 true true", "1:a": "1 true true", "8:h": "1 true true", "2:ab": "1 true true", "2:ab,ab": "1 true true",
		"8:abcdefgh": "1 true true", "8:a,b,c,d,e,f,g,h": "1 true true", "3:ab,bc,ac": "2 true false", "4:ab,bc,cd,ad": "1 true true", "5:ab,bc,cd,de,ae": "2 true false",
		"4:ab,bc,cd,abcd": "1 true true", "8:ab,bc,cd,de,ef,fg,gh,ah": "1 true true", "7:abc,ade,afg,bdf,beg,cdg,cef": "3 true false",
	} {
		x := read(t, text)
		expect(t, "hereditary discrepancy of "+text, both(impl.HereditaryOf(x))+" "+shown(impl.IsUnimodular(x)), want)
	}
}

func TestHereditaryDiscrepanciesThatOnlyASmallerSystemHas(t *testing.T) {
	for text, want := range map[string]string{
		"5:abde,bcde,acde": "0 7 true2 true", "4:abd,bcd,acd": "1 3 true2 true", "6:abd,bce,acf": "1 3 true2 true", "8:abh,bch,ach": "1 3 true2 true", "2:ab": "0 1 true1 true", "8:abcdefgh": "0 15 true1 true",
	} {
		x := read(t, text)
		expect(t, "discrepancies of "+text, three(impl.DiscrepancyOf(x))+both(impl.HereditaryOf(x)), want)
	}
	part, _ := impl.RestrictSystem(read(t, "5:abde,bcde,acde"), 7)
	expect(t, "the smaller system", shown(part)+" "+three(impl.DiscrepancyOf(part)), shown(read(t, "3:ab,bc,ac"))+" 2 0 true")
}

func TestSystemsOfMoreThanMaxTriedPointsHaveNoHereditaryDiscrepancy(t *testing.T) {
	for _, x := range largeSystems(88, 40) {
		expect(t, "hereditary "+shown(x), both(impl.HereditaryOf(x))+shown(impl.IsUnimodular(x)), noNumber+"false")
	}
	for points := int64(0); points <= impl.MaxPoints; points++ {
		is := points <= impl.MaxTried
		want := noNumber
		if is {
			want = "0 true"
		}
		expect(t, "points "+shown(points), both(impl.HereditaryOf(system(points)))+shown(impl.IsUnimodular(system(points))), want+shown(is))
	}
}

func TestDegreeOf(t *testing.T) {
	for text, want := range map[string]string{
		"0:": "0 true", "0:-,-": "0 true", "3:": "0 true", "12:": "0 true", "3:-,-": "0 true", "1:a": "1 true", "3:a,b,c": "1 true", "3:ab,c": "1 true", "12:abcdefghijkl": "1 true", "12:l": "1 true", "12:k,l": "1 true", "12:l,kl": "2 true",
		"3:ab,bc,ac": "2 true", "2:ab,ab,ab": "3 true", "4:ab,ac,ad": "3 true", "4:ad,bd,cd,a": "3 true", "3:-,c,-,bc,abc": "3 true", "1:a,a,a,a,a,a,a,a,a,a,a,a": "12 true", "12:l,l,l,l,l,l,l,l,l,l,l,l": "12 true",
	} {
		expect(t, "degree of "+text, both(impl.DegreeOf(read(t, text))), want)
	}
}

func TestDegreesOfPoints(t *testing.T) {
	for _, x := range append(smallSystems(89, 300), largeSystems(90, 100)...) {
		degree := int64(0)
		var all []int64
		for _, set := range x.Sets {
			all = append(all, pointsOf(set)...)
		}
		for _, point := range all {
			degree = max(degree, standsIn(all, point))
		}
		expect(t, "degree of "+shown(x), both(impl.DegreeOf(x)), both(degree, true))
	}
}

func TestDegreesBoundHereditaryDiscrepancies(t *testing.T) {
	for _, x := range smallSystems(91, 400) {
		degree, _ := impl.DegreeOf(x)
		greatest, _ := impl.HereditaryOf(x)
		if greatest >= 2*max(degree, 1) || degree == 0 && greatest > 0 || degree == 1 && greatest != 1 {
			t.Errorf("%v: degree %d, hereditary discrepancy %d", x, degree, greatest)
		}
	}
}

// allEnds returns the ends of all intervals of some points.
func allEnds(points int64) [][]int64 {
	var ends [][]int64
	for last := range points {
		for first := range last + 1 {
			ends = append(ends, row(first, last))
		}
	}
	return ends
}

// intervalsBy makes sets of intervals point by point.
func intervalsBy(points int64, ends [][]int64) impl.System {
	x := system(points)
	for _, pair := range ends {
		set, bit := int64(0), int64(1)
		for point := range points {
			if pair[0] <= point && point <= pair[1] {
				set += bit
			}
			bit *= 2
		}
		x.Sets = append(x.Sets, set)
	}
	return x
}

// anyEnds returns the ends of some intervals.
func (n *numbers) anyEnds(points, count int64) [][]int64 {
	all := allEnds(points)
	var ends [][]int64
	for range count {
		ends = append(ends, all[n.next(0, int64(len(all))-1)])
	}
	return ends
}

func TestIntervalSystem(t *testing.T) {
	expect(t, "no points", both(impl.IntervalSystem(0, nil)), both(system(0), true))
	expect(t, "no sets", both(impl.IntervalSystem(12, nil)), both(system(12), true))
	expect(t, "order", both(impl.IntervalSystem(4, [][]int64{{2, 2}, {0, 1}, {2, 2}, {0, 3}})), both(read(t, "4:c,ab,c,abcd"), true))
	expect(t, "MaxSets", both(impl.IntervalSystem(12, slices.Repeat([][]int64{{0, 11}}, 12))), both(system(12, repeated(4095, 12)...), true))
	for points := range int64(13) {
		for _, pair := range allEnds(points) {
			ends := [][]int64{pair}
			expect(t, "one interval "+shown(points, pair), both(impl.IntervalSystem(points, ends)), both(intervalsBy(points, ends), true))
		}
	}
}

func TestIntervalsAreUnimodular(t *testing.T) {
	rule := numbers(92)
	for i := range 400 {
		points := int64(1 + i%12)
		ends := rule.anyEnds(points, rule.next(0, impl.MaxSets))
		x, ok := impl.IntervalSystem(points, ends)
		expect(t, "intervals "+shown(points, ends), both(x, ok), both(intervalsBy(points, ends), true))
		discrepancy, _, _ := impl.DiscrepancyOf(x)
		expect(t, "unimodular "+shown(x), shown(impl.IsUnimodular(x), discrepancy <= 1), shown(points <= impl.MaxTried, true))
	}
}

func TestEndsThatAreNoneFail(t *testing.T) {
	for _, points := range []int64{0, 1, 2, 4, 8, 12} {
		all := [][]int64{nil, {}, {0}, {0, 0, 0}, {0, points - 1, points}, repeated(0, 3000), {-1, 0}, {-1, -1}, {0, -1}, {1, 0}, {points - 1, points - 2}, {points, points}, {0, points}, {points, 0}, {points - 1, points}, {-2, points - 1}}
		for _, n := range []int64{math.MinInt64, math.MinInt64 + 1, -1 << 32, -64, -1, 12, 13, 62, 63, 64, 65, 1 << 32, 1 << 62, math.MaxInt64 - 1, math.MaxInt64} {
			all = append(all, row(n, n), row(n, 0), row(0, n), row(n, points-1), row(points-1, n), row(n, math.MaxInt64), row(math.MinInt64, n))
		}
		for _, pair := range all {
			if len(pair) == 2 && 0 <= pair[0] && pair[0] <= pair[1] && pair[1] < points {
				continue
			}
			expect(t, "no ends "+shown(points, pair), both(impl.IntervalSystem(points, [][]int64{pair})), noSystem)
			if points > 0 {
				expect(t, "last "+shown(points, pair), both(impl.IntervalSystem(points, [][]int64{{0, 0}, pair})), noSystem)
				expect(t, "first "+shown(points, pair), both(impl.IntervalSystem(points, [][]int64{pair, {0, 0}})), noSystem)
			}
		}
		for _, count := range []int{13, 14, 3000} {
			expect(t, "too many "+shown(points, count), both(impl.IntervalSystem(points, slices.Repeat([][]int64{{0, 0}}, count))), noSystem)
		}
	}
	for _, points := range append(extremes(), 13, 62, 63, 64, 1<<32, 1<<32+4) {
		if points < 0 || points > 12 {
			expect(t, "points "+shown(points), both(impl.IntervalSystem(points, nil))+both(impl.IntervalSystem(points, [][]int64{{0, 0}})), noSystem+noSystem)
		}
	}
}

// hadamardBy returns rows of 1 and -1: those of the order before beside themselves, and under these once more, with
// the other sign on the right.
func hadamardBy(k int64) [][]int64 {
	rows := [][]int64{{1}}
	for range k {
		var upper, lower [][]int64
		for _, list := range rows {
			upper, lower = append(upper, slices.Concat(list, list)), append(lower, slices.Concat(list, negated(list)))
		}
		rows = append(upper, lower...)
	}
	return rows
}

func TestHadamardSystem(t *testing.T) {
	for k, text := range []string{"1:a", "2:ab,a", "4:abcd,ac,ab,ad", "8:abcdefgh,aceg,abef,adeh,abcd,acfh,abgh,adfg"} {
		expect(t, "order "+shown(k), both(impl.HadamardSystem(int64(k))), both(read(t, text), true))
	}
	for k := range int64(4) {
		x, ok := impl.HadamardSystem(k)
		rows := hadamardBy(k)
		expect(t, "points and sets", shown(x.Points, len(x.Sets), ok), shown(len(rows), len(rows), true))
		for j, set := range x.Sets {
			expect(t, "row "+shown(k, j), shown(coloursOf(x.Points, set)), shown(rows[j]))
		}
	}
	for _, k := range append(extremes(), 3, 4, 5, 62, 63, 64, 1<<32, 1<<32+1) {
		if k < 0 || k > 3 {
			expect(t, "order "+shown(k), both(impl.HadamardSystem(k)), noSystem)
		}
	}
}

func TestDiscrepanciesOfHadamardSystems(t *testing.T) {
	for k, want := range []string{"1 0 true1 true", "1 1 true1 true", "2 1 true2 true", "2 7 true3 true"} {
		x, _ := impl.HadamardSystem(int64(k))
		expect(t, "order "+shown(k), three(impl.DiscrepancyOf(x))+both(impl.HereditaryOf(x)), want)
		discrepancy, _, _ := impl.DiscrepancyOf(x)
		expect(t, "bound of order "+shown(k), shown(4*discrepancy*discrepancy >= x.Points), "true")
	}
}
