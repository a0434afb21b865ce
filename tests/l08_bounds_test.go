package tests

import (
	"slices"
	"testing"

	"loop.example/g01129/impl"
)

// The tests of this file are for promise 9: windows, and what they prove.

// windows puts together all that is told of a bound.
func windows(demands []int64, bound int64) string {
	return three(impl.WindowsOf(demands, bound)) + shown(impl.IsReachable(demands, bound))
}

// noWindows is what is told of a bound, or of demands, that are none.
var noWindows = shown([][]int64{}, [][]int64{}, false) + shown(false)

func TestExamplesOfWindows(t *testing.T) {
	demands := row(2, 1)
	expect(t, "bound 1", windows(demands, 1), "[[1 3] [2]] [[1 3] [2]] truetrue")
	expect(t, "bound 0", windows(demands, 0), "[[2 3] [3]] [[1 2] [1]] truefalse")
	expect(t, "bound 2", windows(demands, 2), "[[1 2] [1]] [[2 3] [3]] truetrue")
	expect(t, "bound 8", windows(demands, 8), "[[1 1] [1]] [[3 3] [3]] truetrue")
	expect(t, "bounds that are none", windows(demands, 9)+windows(demands, -1), noWindows+noWindows)
}

// windowBy looks for the earliest and the latest place of a copy among all places.
func windowBy(size, demand, bound, n int64) (int64, int64) {
	earliest, latest := size, int64(1)
	for size*n-earliest*demand <= bound && earliest >= 1 {
		earliest--
	}
	for (latest-1)*demand-size*(n-1) <= bound && latest <= size {
		latest++
	}
	return earliest + 1, latest - 1
}

// windowsBy looks for the earliest and the latest places of all copies.
func windowsBy(demands []int64, bound int64) ([][]int64, [][]int64) {
	var earliest, latest [][]int64
	for _, demand := range demands {
		var early, late []int64
		for n := int64(1); n <= demand; n++ {
			first, last := windowBy(sumOf(demands), demand, bound, n)
			early, late = append(early, first), append(late, last)
		}
		earliest, latest = append(earliest, early), append(latest, late)
	}
	return earliest, latest
}

// matching puts copies at places by moving others aside, as long as this is possible.
type matching struct {
	earliest, latest []int64
	copyAt           map[int64]int
}

// put puts a copy at a place at which no copy was put since seen was empty, and moves the copy there aside.
func (m *matching) put(n int, seen map[int64]bool) bool {
	for place := m.earliest[n]; place <= m.latest[n]; place++ {
		if seen[place] {
			continue
		}
		seen[place] = true
		other, isTaken := m.copyAt[place]
		if !isTaken || m.put(other, seen) {
			m.copyAt[place] = n
			return true
		}
	}
	return false
}

// canBePut reports whether all copies can be put at different places within their windows.
func canBePut(earliest, latest [][]int64) bool {
	m := &matching{slices.Concat(earliest...), slices.Concat(latest...), map[int64]int{}}
	for n := range m.earliest {
		if !m.put(n, map[int64]bool{}) {
			return false
		}
	}
	return true
}

// checkWindows checks all that is told of a bound, and returns whether it can be reached.
func checkWindows(t *testing.T, demands []int64, bound int64) bool {
	t.Helper()
	earliest, latest := windowsBy(demands, bound)
	can := canBePut(earliest, latest)
	expect(t, "windows of "+shown(demands, bound), windows(demands, bound), three(earliest, latest, true)+shown(can))
	return can
}

func TestWindowsOfAllBounds(t *testing.T) {
	for _, demands := range fewDemands() {
		_, least, _ := firstLeast(demands, sequencesOf(demands), greatestBy)
		size := sumOf(demands)
		for bound := range size * size {
			if bound > 2*size && bound%11 != 0 && bound != size*size-1 {
				continue
			}
			// There is a sequence exactly if all copies can be put.
			can := checkWindows(t, demands, bound)
			expect(t, "bound of "+shown(demands, bound), shown(can), shown(bound >= least))
		}
	}
}

func TestWindowsProveThatNoSequenceIsBetterThanTheBest(t *testing.T) {
	for _, demands := range manyDemands(39, 200) {
		_, least, _ := impl.BestSequence(demands)
		size := sumOf(demands)
		expect(t, "reached for "+shown(demands), shown(checkWindows(t, demands, least)), "true")
		if least > 0 {
			expect(t, "not reached for "+shown(demands), shown(checkWindows(t, demands, least-1)), "false")
		}
		expect(t, "bound 0 for "+shown(demands), shown(checkWindows(t, demands, 0)), shown(least == 0))
		expect(t, "last bound for "+shown(demands), shown(checkWindows(t, demands, size*size-1)), "true")
		for _, bound := range []int64{least + 1, least / 2, size, size - 1, 2 * size, size * size / 2, size*size - 2} {
			if 0 <= bound && bound < size*size {
				expect(t, "bound for "+shown(demands, bound), shown(checkWindows(t, demands, bound)), shown(bound >= least))
			}
		}
	}
}

func TestAllDemandsOfFewStatesReachTheirBest(t *testing.T) {
	for _, demands := range allStates(1, 600) {
		_, least, ok := impl.BestSequence(demands)
		expect(t, "best for "+shown(demands), shown(ok, impl.IsReachable(demands, least), impl.IsReachable(demands, least-1)), "true true false")
	}
}

func TestTheBestSequenceStandsWithinItsWindows(t *testing.T) {
	for _, demands := range manyDemands(40, 100) {
		list, least, _ := impl.BestSequence(demands)
		earliest, latest, _ := impl.WindowsOf(demands, least)
		stands := make([]int64, len(demands))
		for i, product := range list {
			n, place := stands[product], int64(i)+1
			if place < earliest[product][n] || place > latest[product][n] {
				t.Errorf("%v: copy %d of %d at %d, not from %d to %d", demands, n+1, product, place, earliest[product][n], latest[product][n])
			}
			stands[product]++
		}
	}
}

func TestBoundsThatAreNoneFail(t *testing.T) {
	for _, demands := range slices.Concat(limitDemands(), allDemands(6)) {
		size := sumOf(demands)
		for _, bound := range append(extremes(), size*size, size*size+1, size*size-1, 2*size*size, 1<<62, -size, -size*size) {
			if bound < 0 || bound >= size*size {
				expect(t, "no bound of "+shown(demands, bound), windows(demands, bound), noWindows)
			} else {
				_, _, ok := impl.WindowsOf(demands, bound)
				expect(t, "bound of "+shown(demands, bound), shown(ok), "true")
			}
		}
	}
}

func TestWindowsOfOneProduct(t *testing.T) {
	expect(t, "one place", windows(row(1), 0)+windows(row(1), 1), "[[1]] [[1]] truetrue"+noWindows)
	expect(t, "three places", windows(row(3), 0)+windows(row(3), 2), "[[1 2 3]] [[1 2 3]] truetrue[[1 2 3]] [[1 2 3]] truetrue")
	expect(t, "three places, 3 and 8", windows(row(3), 3)+windows(row(3), 8)+windows(row(3), 9), "[[1 1 2]] [[2 3 3]] truetrue[[1 1 1]] [[3 3 3]] truetrue"+noWindows)
	places := upTo(1, impl.MaxDemand)
	expect(t, "MaxDemand", windows(row(impl.MaxDemand), 0), shown([][]int64{places}, [][]int64{places}, true)+"true")
}

func TestWindowsOfEqualDemands(t *testing.T) {
	// Within the bound of the best sequence, each copy can stand at all places of its round.
	for products := int64(1); products <= impl.MaxProducts; products++ {
		for demand := int64(1); states(repeated(demand, int(products))) <= impl.MaxStates && demand <= impl.MaxDemand; demand++ {
			var early, late []int64
			for n := range demand {
				early, late = append(early, n*products+1), append(late, (n+1)*products)
			}
			demands := repeated(demand, int(products))
			expect(t, "equal demands "+shown(demands), windows(demands, demand*(products-1)), three(slices.Repeat([][]int64{early}, int(products)), slices.Repeat([][]int64{late}, int(products)), true)+"true")
			expect(t, "a bound less for "+shown(demands), shown(impl.IsReachable(demands, demand*(products-1)-1)), "false")
		}
	}
}

// kindOf tells what kind of window goes from a place to another one, of size places.
func kindOf(early, late, size int64) string {
	switch {
	case early == late && (early == 1 || late == size):
		return "one place at an end"
	case early == late:
		return "one place"
	case early > late:
		return "no place"
	case early == 1 && late == size:
		return "all places"
	case early == 1:
		return "the first place"
	case late == size:
		return "the last place"
	}
	return "places between"
}

func TestWindowsOfAllKinds(t *testing.T) {
	kinds := map[string]int{}
	for _, demands := range allDemands(7) {
		size := sumOf(demands)
		for bound := range size * size {
			checkWindows(t, demands, bound)
			earliest, latest := windowsBy(demands, bound)
			late := slices.Concat(latest...)
			for i, early := range slices.Concat(earliest...) {
				kinds[kindOf(early, late[i], size)]++
			}
		}
	}
	for _, kind := range []string{"one place at an end", "one place", "no place", "all places", "the first place", "the last place", "places between"} {
		expect(t, "windows of "+kind, shown(kinds[kind] > 100), "true")
	}
}

func TestWindowsOfOnePlaceAndOfAllPlaces(t *testing.T) {
	expect(t, "one place each", windows(row(4, 2, 1), 3), "[[1 3 5 7] [2 6] [4]] [[1 3 5 7] [2 6] [4]] truetrue")
	expect(t, "no place", windows(row(1, 1), 0), "[[2] [2]] [[1] [1]] truefalse")
	expect(t, "all places", windows(row(2, 2), 15), "[[1 1] [1 1]] [[4 4] [4 4]] truetrue")
	expect(t, "first and last places", windows(row(2, 2), 2), "[[1 3] [1 3]] [[2 4] [2 4]] truetrue")
}

// waysToPut returns in how many ways copies can be put at different places within their windows, for at most 12 copies.
func waysToPut(earliest, latest [][]int64) int {
	early, late := slices.Concat(earliest...), slices.Concat(latest...)
	ways := map[uint]int{0: 1}
	for n, first := range early {
		more := map[uint]int{}
		for taken, count := range ways {
			for place := first; place <= late[n]; place++ {
				if taken>>place&1 == 0 {
					more[taken|1<<place] += count
				}
			}
		}
		ways = more
	}
	sum := 0
	for _, count := range ways {
		sum += count
	}
	return sum
}

// putKind tells whether copies can be put, and how.
func putKind(earliest, latest [][]int64) string {
	early, late := slices.Concat(earliest...), slices.Concat(latest...)
	isEmpty := func(i int64) bool { return early[i] > late[i] }
	switch ways := waysToPut(earliest, latest); {
	case ways > 1:
		return "several ways"
	case ways == 1 && slices.Equal(early, late):
		return "one way, as no window has another place"
	case ways == 1:
		return "one way, although windows have other places"
	case slices.ContainsFunc(upTo(0, int64(len(early))-1), isEmpty):
		return "no way, as a window has no place"
	}
	return "no way, although each window has a place"
}

func TestCopiesThatCanBePutInOneWayOnlyOrInNone(t *testing.T) {
	kinds := map[string]int{}
	for _, demands := range allDemands(9) {
		size := sumOf(demands)
		for bound := range min(2*size, size*size) {
			earliest, latest := windowsBy(demands, bound)
			expect(t, "put "+shown(demands, bound), shown(impl.IsReachable(demands, bound)), shown(waysToPut(earliest, latest) > 0))
			kinds[putKind(earliest, latest)]++
		}
	}
	for _, kind := range []string{"several ways", "one way, as no window has another place", "one way, although windows have other places", "no way, as a window has no place", "no way, although each window has a place"} {
		expect(t, "copies put in "+kind, shown(kinds[kind] > 10), "true")
	}
}

func TestCopiesThatCanNotBePutAlthoughEachHasAPlace(t *testing.T) {
	expect(t, "the second place for all", windows(row(1, 1, 1), 1), "[[2] [2] [2]] [[2] [2] [2]] truefalse")
	expect(t, "all places for all", windows(row(1, 1, 1), 2), "[[1] [1] [1]] [[3] [3] [3]] truetrue")
}
