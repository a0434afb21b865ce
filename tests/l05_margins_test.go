package tests

import (
	"math"
	"slices"
	"testing"

	"loop.example/g01129/impl"
)

// The tests of this file are for promise 6: margins and cuts.

// noCut is what CutFor must return if it fails.
var noCut = shown([]int64{}, []int64{}, false)

func TestExamplesOfMargins(t *testing.T) {
	x := table(2, row(1, 1), row(1, 1))
	expect(t, "rounding", both(impl.RoundWithMargins(x, row(2, 0), row(1, 1))), "[[1 1] [0 0]] true")
	expect(t, "cut", three(impl.CutFor(x, row(2, 0), row(2, 0))), "[0] [1] true")
	expect(t, "it is one", shown(impl.IsCut(x, row(2, 0), row(2, 0), row(0), row(1))), "true")
}

// allSets returns all sets of numbers from 0 to count - 1, the lexicographically least ones first.
func allSets(count int) [][]int64 {
	sets := [][]int64{nil}
	for n := range int64(count) {
		for _, set := range slices.Clone(sets) {
			sets = append(sets, append(slices.Clone(set), n))
		}
	}
	slices.SortFunc(sets, slices.Compare[[]int64])
	return sets
}

// isCut reports whether sets of rows and columns are a cut, as it is defined.
func isCut(x impl.Table, across, down, some, others []int64) bool {
	left, right := sumAt(some, across), sumAt(others, down)
	for i, list := range x.Rows {
		for k, num := range list {
			isSome, isOther := slices.Contains(some, int64(i)), slices.Contains(others, int64(k))
			if isSome {
				left -= num / x.Den
			}
			if isOther {
				right -= num / x.Den
			}
			if isSome && !isOther && num%x.Den != 0 {
				right++
			}
		}
	}
	return left > right
}

// checkCuts checks the functions of cuts for margins of equal sums, and reports whether there is a cut.
func checkCuts(t *testing.T, x impl.Table, across, down []int64) bool {
	t.Helper()
	what := shown(x, across, down)
	found := false
	for _, some := range allSets(len(across)) {
		for _, others := range allSets(len(down)) {
			is := isCut(x, across, down, some, others)
			if impl.IsCut(x, across, down, some, others) != is {
				t.Errorf("%v and %v are a cut of %s: got %v", some, others, what, !is)
			}
			if is && !found {
				found = true
				expect(t, "cut "+what, three(impl.CutFor(x, across, down)), shown(some, others, true))
			}
		}
	}
	if !found {
		expect(t, "cut "+what, three(impl.CutFor(x, across, down)), noCut)
	}
	return found
}

// checkNoCuts checks that there is no cut for margins whose sums differ, or that are no margins.
func checkNoCuts(t *testing.T, x impl.Table, across, down []int64) {
	t.Helper()
	what := shown(x, across, down)
	expect(t, "cut "+what, three(impl.CutFor(x, across, down)), noCut)
	for _, some := range allSets(min(len(across), 6)) {
		for _, others := range allSets(min(len(down), 6)) {
			expect(t, "is a cut "+what, shown(impl.IsCut(x, across, down, some, others)), "false")
		}
	}
}

// checkInvalidMargins checks that all functions of margins fail.
func checkInvalidMargins(t *testing.T, x impl.Table, across, down []int64) {
	t.Helper()
	expect(t, "rounding "+shown(x, across, down), both(impl.RoundWithMargins(x, across, down)), noRows)
	for _, rows := range [][][]int64{nil, {}, x.Rows, {{0}}, {{0, 0}, {0, 0}}, {{1, 1}, {0, 0}}, {down}} {
		expect(t, "is a rounding "+shown(x, across, down, rows), shown(impl.IsMarginRounding(x, across, down, rows)), "false")
	}
	checkNoCuts(t, x, across, down)
}

// checkMargins checks all functions of margins against all rounded elements, and returns how many margin roundings there are.
func checkMargins(t *testing.T, x impl.Table, across, down []int64) int {
	t.Helper()
	what := shown(x, across, down)
	count := 0
	for _, rows := range allTables(x) {
		is := slices.Equal(sumsOfRows(rows), across) && slices.Equal(sumsOfColumns(rows), down)
		if impl.IsMarginRounding(x, across, down, rows) != is {
			t.Errorf("%v is a margin rounding of %s: got %v", rows, what, !is)
		}
		if !is {
			continue
		}
		if count == 0 {
			expect(t, "least "+what, both(impl.RoundWithMargins(x, across, down)), both(rows, true))
		}
		count++
	}
	if count == 0 {
		expect(t, "least "+what, both(impl.RoundWithMargins(x, across, down)), noRows)
	}
	if sumOf(across) != sumOf(down) {
		checkNoCuts(t, x, across, down)
	} else if checkCuts(t, x, across, down) == (count > 0) {
		t.Errorf("a cut, or none, of %s with %d margin roundings", what, count)
	}
	return count
}

// anyMargins returns the sums of some rounding of all elements, or margins next to them, which can have equal sums.
func (n *numbers) anyMargins(x impl.Table) ([]int64, []int64) {
	var list []int64
	for _, num := range flat(x.Rows) {
		ways := waysToRound(num, x.Den)
		list = append(list, ways[n.next(0, int64(len(ways))-1)])
	}
	rows := inRows(list, len(x.Rows[0]))
	across, down := sumsOfRows(rows), sumsOfColumns(rows)
	moves := n.next(0, 3) / 2
	for _, margins := range [][]int64{across, down} {
		for range moves {
			from, to := n.next(0, int64(len(margins))-1), n.next(0, int64(len(margins))-1)
			move := min(n.next(0, 3), margins[from])
			margins[from] -= move
			margins[to] += move
		}
	}
	if n.next(1, 10) == 1 {
		across[n.next(0, int64(len(across))-1)]++
	}
	return across, down
}

func TestMarginsOfAnyKind(t *testing.T) {
	rule := numbers(13)
	found := map[string]int{}
	for i := range 4000 {
		x := rule.anyTable(int(rule.next(1, 4)), int(rule.next(1, 4)), 7)
		if i%2 == 0 {
			x = rule.anyTable(3, 3, 9)
		}
		across, down := rule.anyMargins(x)
		switch count := checkMargins(t, x, across, down); {
		case count > 1:
			found["several"]++
		case count == 1:
			found["one"]++
		case sumOf(across) == sumOf(down):
			found["cut"]++
		default:
			found["unequal"]++
		}
	}
	for _, kind := range []string{"several", "one", "cut", "unequal"} {
		if found[kind] < 100 {
			t.Errorf("too few margins of one kind: %v", found)
		}
	}
}

func TestMarginsOfLargeTables(t *testing.T) {
	rule := numbers(14)
	found := map[bool]int{}
	for range 150 {
		x := rule.anyTable(5, int(rule.next(3, 5)), 25)
		across, down := rule.anyMargins(x)
		rows, ok := walkOf(x, marginBounds(across, down)).least()
		found[ok]++
		expect(t, "least "+shown(x, across, down), both(impl.RoundWithMargins(x, across, down)), both(rows, ok))
		expect(t, "is it", shown(impl.IsMarginRounding(x, across, down, rows)), shown(ok))
		if sumOf(across) != sumOf(down) {
			checkNoCuts(t, x, across, down)
		} else if checkCuts(t, x, across, down) == ok {
			t.Errorf("a cut, or none: %v with %v and %v", x, across, down)
		}
	}
	if found[true] < 30 || found[false] < 30 {
		t.Errorf("too few margins of one kind: %v", found)
	}
}

func TestAllMarginsOfHalves(t *testing.T) {
	for _, x := range []impl.Table{table(2, row(1, 1), row(1, 1)), table(2, row(3, 2), row(1, 5)), table(2, row(2, 1), row(1, 2)), table(2, row(4, 0), row(2, 2))} {
		for a := range int64(256) {
			checkMargins(t, x, row(a%4, a/4%4), row(a/16%4, a/64))
		}
	}
}

func TestMarginsWithOneOrSeveralRoundings(t *testing.T) {
	x := table(2, row(1, 1), row(1, 1))
	expect(t, "one", shown(checkMargins(t, x, row(2, 0), row(1, 1)), checkMargins(t, x, row(0, 0), row(0, 0)), checkMargins(t, x, row(1, 2), row(2, 1))), "1 1 1")
	expect(t, "two", shown(checkMargins(t, x, row(1, 1), row(1, 1)))+both(impl.RoundWithMargins(x, row(1, 1), row(1, 1))), "2[[0 1] [1 0]] true")
	// Margins need not be sums that are rounded down or up.
	y := table(9, row(1, 10, 8), row(9, 1, 1), row(17, 1, 0))
	expect(t, "several", shown(checkMargins(t, y, row(3, 2, 2), row(3, 3, 1)))+both(impl.RoundWithMargins(y, row(3, 2, 2), row(3, 3, 1))), "3[[0 2 1] [1 1 0] [2 0 0]] true")
	expect(t, "integers", shown(checkMargins(t, table(3, row(3, 6), row(0, 9)), row(3, 3), row(1, 5)), checkMargins(t, table(3, row(3, 6), row(0, 9)), row(4, 2), row(1, 5))), "1 0")
	expect(t, "one element", shown(checkMargins(t, table(3, row(4)), row(1), row(1)), checkMargins(t, table(3, row(4)), row(2), row(2)), checkMargins(t, table(3, row(4)), row(0), row(0)), checkMargins(t, table(3, row(4)), row(3), row(3))), "1 1 0 0")
	expect(t, "one row", shown(checkMargins(t, table(2, row(1, 1, 4)), row(3), row(0, 1, 2)), checkMargins(t, table(2, row(1, 1, 4)), row(3), row(1, 1, 1))), "1 0")
	expect(t, "one column", shown(checkMargins(t, table(2, row(1), row(1), row(4)), row(0, 1, 2), row(3)), checkMargins(t, table(2, row(1), row(1), row(4)), row(1, 1, 1), row(3))), "1 0")
}

func TestMarginsWhoseSumsDiffer(t *testing.T) {
	x := table(2, row(1, 1), row(1, 1))
	for _, m := range [][2][]int64{{row(2, 0), row(1, 0)}, {row(1, 1), row(2, 1)}, {row(0, 0), row(0, 1)}, {row(9, 0), row(0, 0)}, {row(0, 0), row(0, 9)}, {row(impl.MaxNum, impl.MaxNum), row(1, 1)}} {
		expect(t, "count", shown(checkMargins(t, x, m[0], m[1])), "0")
		checkInvalidMargins(t, x, m[0], m[1])
	}
}

func TestMarginsTooGreatOrTooSmallForOneLine(t *testing.T) {
	// The rows can have the sums 2 to 5 and 2 to 4, and the columns 2 to 4, 1 to 3 and 1 to 2.
	x := table(2, row(3, 3, 1), row(3, 1, 2))
	for _, c := range []struct {
		what         string
		across, down []int64
		cut          string
	}{
		{"none", row(4, 3), row(2, 3, 2), noCut},
		{"a row too great", row(6, 2), row(4, 3, 1), "[0] [] true"},
		{"the last row too great", row(3, 5), row(4, 3, 1), "[1] [] true"},
		{"a row too small", row(1, 4), row(2, 2, 1), "[1] [0] true"},
		{"the last row too small", row(5, 1), row(2, 2, 2), "[0] [0] true"},
		{"a column too great", row(4, 4), row(5, 2, 1), "[0 1] [1 2] true"},
		{"the last column too great", row(4, 3), row(2, 2, 3), "[0 1] [0 1] true"},
		{"a column too small", row(3, 3), row(1, 3, 2), "[] [0] true"},
		{"the last column too small", row(3, 3), row(3, 3, 0), "[] [2] true"},
	} {
		checkMargins(t, x, c.across, c.down)
		expect(t, c.what, three(impl.CutFor(x, c.across, c.down)), c.cut)
	}
}

func TestCutsWithNoneOrAll(t *testing.T) {
	x := table(2, row(1, 1), row(1, 1))
	y := table(2, row(3, 1), row(1, 1))
	z := table(2, row(1, 1), row(3, 1))
	expect(t, "no columns", three(impl.CutFor(x, row(3, 0), row(2, 1))), "[0] [] true")
	expect(t, "all rows", three(impl.CutFor(x, row(2, 2), row(1, 3))), "[0 1] [0] true")
	expect(t, "no rows", three(impl.CutFor(y, row(1, 1), row(0, 2))), "[] [0] true")
	expect(t, "all columns", three(impl.CutFor(z, row(1, 0), row(1, 0))), "[0] [0 1] true")
	expect(t, "all rows, no columns", shown(impl.IsCut(x, row(3, 2), row(3, 2), row(0, 1), nil)), "true")
	expect(t, "no rows, all columns", shown(impl.IsCut(table(1, row(2, 2)), row(3), row(2, 1), []int64{}, row(0, 1))), "true")
	for _, m := range [][2][]int64{{row(3, 0), row(2, 1)}, {row(2, 2), row(1, 3)}, {row(0, 3), row(1, 2)}, {row(1, 1), row(1, 1)}, {row(0, 0), row(0, 0)}} {
		for _, some := range []impl.Table{x, y, z} {
			checkMargins(t, some, m[0], m[1])
			expect(t, "none and none", shown(impl.IsCut(some, m[0], m[1], nil, []int64{})), "false")
			expect(t, "all and all", shown(impl.IsCut(some, m[0], m[1], row(0, 1), row(0, 1))), "false")
		}
	}
}

func TestCutForIsTheLeastOfSeveral(t *testing.T) {
	x := table(2, row(1, 1, 1), row(1, 1, 1), row(1, 1, 1))
	across, down := row(6, 6, 0), row(4, 4, 4)
	// Each of these is a cut. Fewer rows come first even if their columns do not.
	expect(t, "cuts", shown(impl.IsCut(x, across, down, row(1), nil), impl.IsCut(x, across, down, row(0, 1), nil), impl.IsCut(x, across, down, row(0), nil)), "true true true")
	expect(t, "least", three(impl.CutFor(x, across, down)), "[0] [] true")
	// The last row can be cut without columns, but the first rows can be cut as well, with columns.
	y := table(2, row(1, 1), row(1, 1), row(2, 2))
	expect(t, "cuts", shown(impl.IsCut(y, row(2, 2, 3), row(2, 5), row(2), nil), impl.IsCut(y, row(2, 2, 3), row(2, 5), row(0, 1), row(0))), "true true")
	expect(t, "by rows", three(impl.CutFor(y, row(2, 2, 3), row(2, 5))), "[0 1] [0] true")
	checkMargins(t, x, across, down)
	checkMargins(t, y, row(2, 2, 3), row(2, 5))
}

func TestWrongSetsAreNoCuts(t *testing.T) {
	x := table(2, row(1, 1, 1), row(1, 1, 1), row(1, 1, 1))
	across, down := row(6, 6, 0), row(4, 4, 4)
	expect(t, "sets", shown(impl.IsCut(x, across, down, row(0), nil), impl.IsCut(x, across, down, row(0, 1), row(2)), impl.IsCut(x, across, down, row(1), row(0))), "true true false")
	y := table(2, row(1, 1, 2), row(1, 1, 2), row(1, 1, 2))
	expect(t, "a cut without rows", shown(impl.IsCut(y, row(2, 1, 1), row(2, 2, 0), nil, row(2))), "true")
	for _, set := range [][]int64{{-1}, {-1, 0}, {3}, {0, 3}, {0, 0}, {0, 1, 1}, {1, 0}, {0, 1, 0}, {0, 1, 2, 3}, {64}, {0, 64}, {math.MinInt64}, {0, math.MaxInt64}, repeated(0, 3000)} {
		for _, others := range allSets(3) {
			expect(t, "rows "+shown(set), shown(impl.IsCut(x, across, down, set, others)), "false")
			expect(t, "columns "+shown(set), shown(impl.IsCut(x, across, down, row(0), set)), "false")
			expect(t, "rows "+shown(set), shown(impl.IsCut(y, row(2, 1, 1), row(2, 2, 0), set, others)), "false")
		}
	}
	// The sets are those of rows and columns of a table that has not as many of both.
	z := table(2, row(1, 1, 1), row(1, 1, 1))
	expect(t, "row", shown(impl.IsCut(z, row(6, 0), row(2, 2, 2), row(0), row(2)), impl.IsCut(z, row(6, 0), row(2, 2, 2), row(0, 2), nil)), "true false")
}

func TestInvalidMarginsFail(t *testing.T) {
	x := table(2, row(1, 1), row(1, 1))
	for _, across := range [][]int64{nil, {}, {2}, {2, 0, 0}, {1, 1, 0}, {3, -1}, {-1, 3}, {2, impl.MaxNum + 1}, {math.MinInt64, 2}, {2, math.MaxInt64}, repeated(0, 3000)} {
		checkInvalidMargins(t, x, across, row(1, 1))
		checkInvalidMargins(t, x, row(1, 1), across)
		checkInvalidMargins(t, x, across, across)
	}
	one := table(1, row(impl.MaxEntry))
	expect(t, "MaxEntry", shown(checkMargins(t, one, row(impl.MaxEntry), row(impl.MaxEntry))), "1")
	expect(t, "MaxNum", shown(checkMargins(t, one, row(impl.MaxNum), row(impl.MaxNum)), impl.IsCut(one, row(impl.MaxNum), row(impl.MaxNum), row(0), nil)), "0 true")
	checkInvalidMargins(t, one, row(impl.MaxNum+1), row(impl.MaxNum+1))
	checkInvalidMargins(t, one, row(-1), row(-1))
	large := table(1, square(impl.MaxEntry, 5, 5)...)
	expect(t, "5 rows of MaxEntry", both(impl.RoundWithMargins(large, repeated(500000, 5), repeated(500000, 5))), both(large.Rows, true))
}

func TestIsMarginRoundingOfOtherRows(t *testing.T) {
	x := table(2, row(1, 1), row(1, 1))
	expect(t, "a rounding", shown(impl.IsMarginRounding(x, row(1, 1), row(1, 1), [][]int64{{0, 1}, {1, 0}})), "true")
	for _, rows := range [][][]int64{
		nil, {}, {nil}, {nil, nil}, {{0, 1}}, {{0, 1}, {1}}, {{0, 1}, {1, 0}, {0, 0}}, {{0, 1}, {1, 0}, {}}, {{0, 1, 0}, {1, 0, 0}}, {{0, 1, 0}, {1, 0}}, {{0, 1, 1, 0}}, {{0}, {1}, {1}, {0}},
		{{2, -1}, {-1, 2}}, {{1, 0}, {1, 0}}, {{1, 1}, {0, 0}}, {{0, 0}, {0, 0}}, {{1, 1}, {1, 1}}, {{math.MaxInt64, 2}, {2, math.MaxInt64}},
	} {
		expect(t, "rows "+shown(rows), shown(impl.IsMarginRounding(x, row(1, 1), row(1, 1), rows)), "false")
	}
}
