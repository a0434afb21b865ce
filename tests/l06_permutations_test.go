package tests

import (
	"math"
	"slices"
	"testing"

	"loop.example/g01129/impl"
)

// The tests of this file are for promise 7: permutations.

func TestExamplesOfPermutations(t *testing.T) {
	rows := [][]int64{{1, 2}, {2, 1}}
	expect(t, "doubly even", shown(impl.IsDoubly(rows)), "true")
	expect(t, "mixture", both(impl.PermutationMixture(rows)), "{[1 2] [[0 1] [1 0]]} true")
}

// allPermutations returns all orders of the numbers below count, the lexicographically least one first.
func allPermutations(count int) [][]int64 {
	order := upTo(0, int64(count)-1)
	all := [][]int64{slices.Clone(order)}
	for {
		// The last number with a greater one behind it is exchanged for the next greater one there.
		i := count - 2
		for i >= 0 && order[i] > order[i+1] {
			i--
		}
		if i < 0 {
			return all
		}
		k := count - 1
		for order[k] < order[i] {
			k--
		}
		order[i], order[k] = order[k], order[i]
		slices.Reverse(order[i+1:])
		all = append(all, slices.Clone(order))
	}
}

func TestAllPermutationsOfTheTests(t *testing.T) {
	for count, want := range []int{1, 1, 2, 6, 24, 120, 720} {
		all := allPermutations(count)
		expect(t, "number", shown(len(all), slices.IsSortedFunc(all, slices.Compare)), shown(want, true))
		for _, order := range all {
			slices.Sort(order)
			expect(t, "numbers", shown(order), shown(upTo(0, int64(count)-1)))
		}
	}
}

// entriesAt returns the entries of a permutation.
func entriesAt(rows [][]int64, order []int64) []int64 {
	var entries []int64
	for i, k := range order {
		entries = append(entries, rows[i][k])
	}
	return entries
}

// oneAfterAnother looks for the least permutation that fits among all of them, again for each list.
func oneAfterAnother(rows [][]int64) impl.Mixture {
	var left [][]int64
	for _, list := range rows {
		left = append(left, slices.Clone(list))
	}
	all := allPermutations(len(rows))
	var m impl.Mixture
	for slices.Max(flat(left)) > 0 {
		n := slices.IndexFunc(all, func(order []int64) bool { return slices.Min(entriesAt(left, order)) > 0 })
		weight := slices.Min(entriesAt(left, all[n]))
		for i, k := range all[n] {
			left[i][k] -= weight
		}
		m.Lists, m.Weights = append(m.Lists, all[n]), append(m.Weights, weight)
	}
	return m
}

// checkDoubly checks the mixture of doubly even rows, and what promise 7 says of it, and returns how many lists it has.
func checkDoubly(t *testing.T, rows [][]int64) int {
	t.Helper()
	what := shown(rows)
	expect(t, "doubly even "+what, shown(impl.IsDoubly(rows)), "true")
	m, ok := impl.PermutationMixture(rows)
	expect(t, "mixture "+what, both(m, ok), both(oneAfterAnother(rows), true))
	expect(t, "valid "+what, shown(impl.ValidMixture(m), totalOf(m)), shown(true, sumOf(rows[0])))
	expect(t, "sums "+what, three(impl.SumWeights(m)), shown(row(sumOf(upTo(0, int64(len(rows))-1))), row(sumOf(rows[0])), true))
	for _, order := range m.Lists {
		sorted := slices.Sorted(slices.Values(order))
		expect(t, "permutation of "+what, shown(sorted), shown(upTo(0, int64(len(rows))-1)))
	}
	for i, list := range rows {
		for k, entry := range list {
			at, column := int64(i), int64(k)
			expect(t, "entry of "+what, both(impl.PairWeight(m, at, column, at, column)), both(entry, true))
		}
	}
	return len(m.Lists)
}

// anyDoubly returns doubly even rows that are the sum of some permutations.
func (n *numbers) anyDoubly(count int, permutations, most int64) [][]int64 {
	rows := square(0, count, count)
	for i := range rows {
		rows[i] = repeated(0, count)
	}
	for range permutations {
		weight := n.next(1, most)
		for i, k := range n.anyOrder(count) {
			rows[i][k] += weight
		}
	}
	return rows
}

func TestPermutationsOfAnyRows(t *testing.T) {
	rule := numbers(25)
	several := 0
	for range 1200 {
		if checkDoubly(t, rule.anyDoubly(int(rule.next(1, 5)), rule.next(1, 8), rule.next(1, 9))) > 3 {
			several++
		}
	}
	for range 40 {
		checkDoubly(t, rule.anyDoubly(impl.MaxSquare, rule.next(1, 25), rule.next(1, 40)))
	}
	if several < 300 {
		t.Errorf("only %d mixtures have more than 3 lists", several)
	}
}

func TestAllRowsOfTwo(t *testing.T) {
	for _, list := range allLists(4, 4) {
		rows := inRows(list, 2)
		want := list[0] == list[3] && list[1] == list[2] && list[0]+list[1] > 0
		expect(t, "doubly even "+shown(rows), shown(impl.IsDoubly(rows)), shown(want))
		if want {
			checkDoubly(t, rows)
		} else {
			expect(t, "mixture "+shown(rows), both(impl.PermutationMixture(rows)), noMixture)
		}
	}
}

func TestAllRowsOfThree(t *testing.T) {
	count := 0
	for _, list := range allLists(9, 2) {
		rows := inRows(list, 3)
		sums := append(sumsOfRows(rows), sumsOfColumns(rows)...)
		want := sums[0] > 0 && slices.Min(sums) == slices.Max(sums)
		expect(t, "doubly even "+shown(rows), shown(impl.IsDoubly(rows)), shown(want))
		if want {
			count++
			checkDoubly(t, rows)
		} else {
			expect(t, "mixture "+shown(rows), both(impl.PermutationMixture(rows)), noMixture)
		}
	}
	if count < 30 {
		t.Errorf("only %d rows are doubly even", count)
	}
}

// allLists returns all lists of count numbers from 0 to most.
func allLists(count int, most int64) [][]int64 {
	lists := [][]int64{{}}
	for range count {
		var longer [][]int64
		for _, list := range lists {
			for n := range most + 1 {
				longer = append(longer, append(slices.Clone(list), n))
			}
		}
		lists = longer
	}
	return lists
}

func TestRowsOfOneNumber(t *testing.T) {
	expect(t, "1", both(impl.PermutationMixture([][]int64{{1}})), "{[1] [[0]]} true")
	expect(t, "MaxShare", both(impl.PermutationMixture([][]int64{{impl.MaxShare}})), "{[1000] [[0]]} true")
	expect(t, "lists", shown(checkDoubly(t, [][]int64{{1}}), checkDoubly(t, [][]int64{{17}}), checkDoubly(t, [][]int64{{impl.MaxShare}})), "1 1 1")
	for _, n := range []int64{0, -1, impl.MaxShare + 1, math.MinInt64, math.MaxInt64} {
		expect(t, "no rows "+shown(n), shown(impl.IsDoubly([][]int64{{n}}))+both(impl.PermutationMixture([][]int64{{n}})), "false"+noMixture)
	}
}

func TestRowsOfMaxSquare(t *testing.T) {
	expect(t, "equal entries", shown(checkDoubly(t, square(1, 6, 6)), checkDoubly(t, square(impl.MaxShare, 6, 6))), "6 6")
	// The row 0 takes the columns in ascending order, and all other rows the least ones that leave some for the rows below.
	orders := [][]int64{{0, 1, 2, 3, 4, 5}, {1, 0, 3, 2, 5, 4}, {2, 3, 4, 5, 0, 1}, {3, 2, 5, 4, 1, 0}, {4, 5, 0, 1, 2, 3}, {5, 4, 1, 0, 3, 2}}
	expect(t, "equal entries", both(impl.PermutationMixture(square(impl.MaxShare, 6, 6))), both(mixture(repeated(impl.MaxShare, 6), orders...), true))
	for _, order := range [][]int64{{0, 1, 2, 3, 4, 5}, {5, 4, 3, 2, 1, 0}, {1, 2, 3, 4, 5, 0}, {3, 5, 0, 1, 2, 4}} {
		rows := inRows(repeated(0, 36), 6)
		for i, k := range order {
			rows[i][k] = impl.MaxShare
		}
		expect(t, "one permutation", both(impl.PermutationMixture(rows)), both(mixture(row(impl.MaxShare), order), true))
		checkDoubly(t, rows)
	}
	rule := numbers(26)
	most := 0
	for range 60 {
		most = max(most, checkDoubly(t, rule.anyDoubly(6, 25, 40)))
	}
	// A list uses up an entry at least, and the last ones use up several: 26 lists can be needed.
	if most < 20 || most > 26 {
		t.Errorf("at most %d lists", most)
	}
}

func TestTheLeastPermutationComesNext(t *testing.T) {
	expect(t, "equal entries", both(impl.PermutationMixture(square(1, 3, 3))), "{[1 1 1] [[0 1 2] [1 2 0] [2 0 1]]} true")
	expect(t, "of four", both(impl.PermutationMixture(square(5, 4, 4))), "{[5 5 5 5] [[0 1 2 3] [1 0 3 2] [2 3 0 1] [3 2 1 0]]} true")
	expect(t, "not the one with the greatest entries", both(impl.PermutationMixture([][]int64{{1, 9}, {9, 1}})), "{[1 9] [[0 1] [1 0]]} true")
	expect(t, "zeros on the diagonal", both(impl.PermutationMixture([][]int64{{0, 1, 1}, {1, 0, 1}, {1, 1, 0}})), "{[1 1] [[1 2 0] [2 0 1]]} true")
	expect(t, "a diagonal that is used up", both(impl.PermutationMixture([][]int64{{2, 1, 0}, {0, 2, 1}, {1, 0, 2}})), "{[2 1] [[0 1 2] [1 2 0]]} true")
	expect(t, "one column after another", both(impl.PermutationMixture([][]int64{{3, 1, 1}, {1, 3, 1}, {1, 1, 3}})), "{[3 1 1] [[0 1 2] [1 2 0] [2 0 1]]} true")
	expect(t, "the same column first, twice", both(impl.PermutationMixture([][]int64{{2, 1, 1}, {1, 1, 2}, {1, 2, 1}})), "{[1 1 1 1] [[0 1 2] [0 2 1] [1 2 0] [2 0 1]]} true")
}

func TestEntriesThatAreUsedUpTogether(t *testing.T) {
	expect(t, "all at once", shown(checkDoubly(t, [][]int64{{0, 4, 0}, {4, 0, 0}, {0, 0, 4}}), checkDoubly(t, [][]int64{{3, 3}, {3, 3}})), "1 2")
	expect(t, "two of three", both(impl.PermutationMixture([][]int64{{2, 3, 0}, {3, 2, 0}, {0, 0, 5}})), "{[2 3] [[0 1 2] [1 0 2]]} true")
	expect(t, "one of three", both(impl.PermutationMixture([][]int64{{1, 2, 0}, {1, 1, 1}, {1, 0, 2}})), "{[1 1 1] [[0 1 2] [1 0 2] [1 2 0]]} true")
}

func TestEntriesOfZeroAndOfMaxShare(t *testing.T) {
	expect(t, "both", both(impl.PermutationMixture([][]int64{{impl.MaxShare, 0}, {0, impl.MaxShare}}))+both(impl.PermutationMixture([][]int64{{0, impl.MaxShare}, {impl.MaxShare, 0}})), "{[1000] [[0 1]]} true{[1000] [[1 0]]} true")
	expect(t, "sums beyond MaxShare", both(impl.PermutationMixture([][]int64{{1, impl.MaxShare}, {impl.MaxShare, 1}})), "{[1 1000] [[0 1] [1 0]]} true")
	expect(t, "0, 1 and MaxShare", both(impl.PermutationMixture([][]int64{{impl.MaxShare, 0, 999}, {0, impl.MaxShare, 999}, {999, 999, 1}})), "{[1 999 999] [[0 1 2] [0 2 1] [2 1 0]]} true")
	expect(t, "lists", shown(checkDoubly(t, square(impl.MaxShare, 5, 5)), checkDoubly(t, square(impl.MaxShare, 4, 4))), "5 4")
}

// noDoubly are rows that are not doubly even.
func noDoubly() [][][]int64 {
	return [][][]int64{
		nil, {}, {nil}, {{}}, {{0}}, {{-1}}, {{1, 1}}, {{1}, {1}}, {{1, 1}, {1}}, {{1}, {1, 1}}, {{1, 1}, nil}, {nil, {1, 1}}, {nil, nil}, {{1, 0}, {0, 1}, {0, 0}}, {{1, 0, 0}, {0, 1, 0}}, {{1, 0, 0}, {0, 1, 0}, {0, 1}}, {{1, 0}, {0, 1, 0}, {0, 0, 1}},
		{{0, 0}, {0, 0}}, square(0, 6, 6), {{1, 0}, {1, 0}}, {{1, 1}, {0, 0}}, {{0, 1}, {0, 1}}, {{1, 2}, {1, 2}}, {{2, 2}, {1, 1}}, {{1, 2}, {2, 2}}, {{1, 0}, {0, 2}}, {{1, 1, 0}, {0, 1, 1}, {0, 1, 1}}, {{2, 0, 0}, {0, 1, 1}, {0, 2, 0}}, {{1, 1, 1}, {1, 1, 1}, {1, 1, 2}},
		{{2, -1}, {-1, 2}}, {{-1, 2}, {2, -1}}, {{-1, -1}, {-1, -1}}, {{3, -1, 0}, {-1, 3, 0}, {0, 0, 2}}, {{impl.MaxShare + 1}}, {{impl.MaxShare + 1, 0}, {0, impl.MaxShare + 1}}, square(impl.MaxShare+1, 6, 6), {{0, 0, 1001}, {1001, 0, 0}, {0, 1001, 0}},
		square(1, 7, 7), square(1, 6, 7), square(1, 7, 6), square(1, 6, 5), square(1, 5, 6), square(1, 40, 40), square(1, 1, 3000), square(1, 3000, 1), slices.Repeat([][]int64{nil}, 3000),
		{{math.MaxInt64}}, {{math.MinInt64}}, {{math.MaxInt64, math.MinInt64}, {math.MinInt64, math.MaxInt64}}, {{math.MaxInt64, 3}, {3, math.MaxInt64}}, square(math.MinInt64, 2, 2), square(math.MaxInt64, 3, 3), {{1 << 62, 1 << 62, 1 << 62, 1 << 62}, {1, 1, 1, 1}, {1, 1, 1, 1}, {1, 1, 1, 1}},
	}
}

func TestRowsThatAreNotDoublyEvenFail(t *testing.T) {
	for _, rows := range noDoubly() {
		expect(t, "doubly even "+shown(rows), shown(impl.IsDoubly(rows)), "false")
		expect(t, "mixture "+shown(rows), both(impl.PermutationMixture(rows)), noMixture)
	}
}
