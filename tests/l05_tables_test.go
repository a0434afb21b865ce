package tests

import (
	"math"
	"slices"
	"testing"

	"loop.example/g01129/impl"
)

// The tests of this file are for promise 6: table roundings.

// table makes a table of a denominator and rows.
func table(den int64, rows ...[]int64) impl.Table { return impl.Table{Den: den, Rows: rows} }

// row makes a row.
func row(nums ...int64) []int64 { return nums }

// square makes rows that all have count times the same number.
func square(n int64, rows, count int) [][]int64 {
	return slices.Repeat([][]int64{repeated(n, count)}, rows)
}

// noRows and noNearest are what functions that return rows must return if they fail.
var (
	noRows    = shown([][]int64{}, false)
	noNearest = shown([][]int64{}, 0, false)
)

func TestExamplesOfTables(t *testing.T) {
	x, ok := impl.ReadTable("2:1,1/1,1")
	expect(t, "table", both(x, ok), "{2 [[1 1] [1 1]]} true")
	expect(t, "count", both(impl.CountTables(x)), "2 true")
	expect(t, "roundings", shown(impl.IsTableRounding(x, [][]int64{{0, 1}, {1, 0}}), impl.IsTableRounding(x, [][]int64{{1, 0}, {0, 1}})), "true true")
	expect(t, "least", both(impl.RoundTable(x)), "[[0 1] [1 0]] true")
}

// flat returns the elements of rows, row by row.
func flat(rows [][]int64) []int64 { return slices.Concat(rows...) }

// inRows makes rows of a list, each of which has some columns.
func inRows(list []int64, columns int) [][]int64 { return slices.Collect(slices.Chunk(list, columns)) }

// sumsOfRows and sumsOfColumns return the sums of rows that have the same length.
func sumsOfRows(rows [][]int64) []int64 {
	var sums []int64
	for _, list := range rows {
		sums = append(sums, sumOf(list))
	}
	return sums
}

func sumsOfColumns(rows [][]int64) []int64 {
	sums := repeated(0, len(rows[0]))
	for _, list := range rows {
		for k, n := range list {
			sums[k] += n
		}
	}
	return sums
}

// openCount returns how many elements of a table are no integers.
func openCount(x impl.Table) int {
	return len(slices.DeleteFunc(flat(x.Rows), func(n int64) bool { return n%x.Den == 0 }))
}

// allTables returns all rows of integers that are the elements of a table, rounded down or up, the least ones first.
func allTables(x impl.Table) [][][]int64 {
	var all [][][]int64
	for _, list := range allRoundings(impl.Values{Den: x.Den, Nums: flat(x.Rows)}) {
		all = append(all, inRows(list, len(x.Rows[0])))
	}
	return all
}

// areRoundedSums reports whether all sums are those of a table, rounded down or up.
func areRoundedSums(sums, nums []int64, den int64) bool {
	for i, n := range sums {
		if !isFloor(n, nums[i], den) && !isCeiling(n, nums[i], den) {
			return false
		}
	}
	return true
}

// isTableRounding reports whether rounded elements of a table have rounded sums.
func isTableRounding(x impl.Table, rows [][]int64) bool {
	return areRoundedSums(sumsOfRows(rows), sumsOfRows(x.Rows), x.Den) && areRoundedSums(sumsOfColumns(rows), sumsOfColumns(x.Rows), x.Den) &&
		areRoundedSums([]int64{sumOf(flat(rows))}, []int64{sumOf(flat(x.Rows))}, x.Den)
}

// checkTable checks all functions of table roundings against all rounded elements, and returns how many table roundings there are.
func checkTable(t *testing.T, x impl.Table) int {
	t.Helper()
	what := shown(x)
	var nearest [][]int64
	least, count := int64(math.MaxInt64), 0
	for _, rows := range allTables(x) {
		is := isTableRounding(x, rows)
		if impl.IsTableRounding(x, rows) != is {
			t.Errorf("%v is a table rounding of %s: got %v", rows, what, !is)
		}
		if !is {
			continue
		}
		if count == 0 {
			expect(t, "least "+what, both(impl.RoundTable(x)), both(rows, true))
		}
		count++
		if n := normOf(impl.Values{Den: x.Den, Nums: flat(x.Rows)}, flat(rows), impl.NormSum); n < least {
			nearest, least = rows, n
		}
	}
	if count == 0 {
		t.Errorf("no table rounding of %s", what)
	}
	expect(t, "count "+what, both(impl.CountTables(x)), both(count, true))
	expect(t, "nearest "+what, three(impl.NearestTable(x)), shown(nearest, least, true))
	checkSums(t, x)
	return count
}

// checkSums checks the sums of a valid table.
func checkSums(t *testing.T, x impl.Table) {
	t.Helper()
	expect(t, "valid "+shown(x), shown(impl.ValidTable(x)), "true")
	expect(t, "row sums "+shown(x), both(impl.RowSums(x)), both(sumsOfRows(x.Rows), true))
	expect(t, "column sums "+shown(x), both(impl.ColumnSums(x)), both(sumsOfColumns(x.Rows), true))
}

// anyTable returns a table with some rows and columns, of whose elements at most most are no integers.
func (n *numbers) anyTable(rows, columns, most int) impl.Table {
	x := impl.Table{Den: n.next(2, 7)}
	few := n.next(0, 3)
	for range rows {
		var list []int64
		for range columns {
			num := n.next(0, 20)
			if n.next(1, 4) <= few {
				num -= num % x.Den
			}
			list = append(list, num)
		}
		x.Rows = append(x.Rows, list)
	}
	for open := openCount(x); open > most; open = openCount(x) {
		list := x.Rows[n.next(0, int64(rows)-1)]
		list[n.next(0, int64(columns)-1)] = x.Den * n.next(0, 3)
	}
	return x
}

func TestTablesOfAnyKind(t *testing.T) {
	rule := numbers(11)
	several := 0
	for range 2000 {
		x := rule.anyTable(int(rule.next(1, impl.MaxSide)), int(rule.next(1, impl.MaxSide)), 8)
		if checkTable(t, x) > 1 {
			several++
		}
	}
	if several < 500 {
		t.Errorf("only %d tables have several roundings", several)
	}
}

func TestAllTablesOfTwoRowsAndColumns(t *testing.T) {
	for den := int64(1); den <= 4; den++ {
		v := values(den, repeated(0, 4)...)
		for n := range (den + 2) * (den + 2) * (den + 2) * (den + 2) {
			for i := range v.Nums {
				v.Nums[i] = n % (den + 2)
				n /= den + 2
			}
			checkTable(t, impl.Table{Den: den, Rows: inRows(slices.Clone(v.Nums), 2)})
		}
	}
}

func TestTablesOfOneElement(t *testing.T) {
	expect(t, "a third", shown(checkTable(t, table(3, row(1)))), "2")
	expect(t, "least", both(impl.RoundTable(table(3, row(1)))), "[[0]] true")
	expect(t, "nearest down", three(impl.NearestTable(table(3, row(4)))), "[[1]] 1 true")
	expect(t, "nearest up", three(impl.NearestTable(table(3, row(5)))), "[[2]] 1 true")
	expect(t, "a half", three(impl.NearestTable(table(2, row(3)))), "[[1]] 1 true")
	expect(t, "an integer", shown(checkTable(t, table(3, row(6))), checkTable(t, table(1, row(0))), checkTable(t, table(1, row(impl.MaxEntry)))), "1 1 1")
	expect(t, "rows", shown(impl.IsTableRounding(table(3, row(6)), [][]int64{{2}}), impl.IsTableRounding(table(3, row(6)), [][]int64{{3}}), impl.IsTableRounding(table(3, row(6)), [][]int64{{1}})), "true false false")
}

func TestTablesOfOneRowAndOfOneColumn(t *testing.T) {
	across := table(4, row(1, 2, 3, 5, 2))
	expect(t, "row", shown(checkTable(t, across), checkTable(t, table(3, row(1, 1))), checkTable(t, table(5, row(5, 1, 10)))), "20 3 2")
	expect(t, "least row", both(impl.RoundTable(across)), "[[0 0 0 2 1]] true")
	down := table(4, row(1), row(2), row(3), row(5), row(2))
	expect(t, "column", shown(checkTable(t, down), checkTable(t, table(3, row(1), row(1))), checkTable(t, table(5, row(5), row(1), row(10)))), "20 3 2")
	expect(t, "least column", both(impl.RoundTable(down)), "[[0] [0] [0] [2] [1]] true")
	expect(t, "sums", both(impl.RowSums(across))+both(impl.ColumnSums(across))+both(impl.RowSums(down))+both(impl.ColumnSums(down)), "[13] true[1 2 3 5 2] true[1 2 3 5 2] true[13] true")
}

func TestTablesOfIntegers(t *testing.T) {
	for _, x := range []impl.Table{table(1, row(0, 7), row(3, 5)), table(3, row(0, 6, 9)), table(2, row(4), row(0)), table(1, square(0, 5, 5)...), table(1000, square(impl.MaxEntry, 5, 5)...)} {
		expect(t, "count "+shown(x), shown(checkTable(t, x)), "1")
	}
	x := table(3, row(0, 6), row(9, 3))
	expect(t, "least", both(impl.RoundTable(x))+three(impl.NearestTable(x)), "[[0 2] [3 1]] true[[0 2] [3 1]] 0 true")
	expect(t, "others", shown(impl.IsTableRounding(x, [][]int64{{1, 1}, {2, 2}}), impl.IsTableRounding(x, [][]int64{{0, 3}, {3, 1}}), impl.IsTableRounding(x, [][]int64{{0, 1}, {3, 1}})), "false false false")
}

func TestTablesOfWhichSomeElementsAreIntegers(t *testing.T) {
	x := table(2, row(1, 2, 1), row(4, 1, 3), row(3, 3, 0))
	expect(t, "count", shown(checkTable(t, x)), "2")
	expect(t, "least", both(impl.RoundTable(x)), "[[0 1 1] [2 1 1] [2 1 0]] true")
	// The sums of these rows are right, but elements that are integers are changed.
	expect(t, "other", shown(impl.IsTableRounding(x, [][]int64{{0, 2, 0}, {2, 0, 2}, {2, 1, 0}})), "false")
	expect(t, "one open element", shown(checkTable(t, table(5, row(5, 0, 10), row(0, 7, 5), row(5, 5, 5)))), "2")
	expect(t, "open elements on a diagonal", shown(checkTable(t, table(5, row(1, 0, 5), row(10, 2, 0), row(0, 5, 4)))), "6")
}

func TestSumsThatAreIntegersAlthoughTheirElementsAreNot(t *testing.T) {
	rows := table(3, row(1, 2), row(2, 4))
	expect(t, "rows", shown(checkTable(t, rows))+both(impl.RoundTable(rows)), "2[[0 1] [1 1]] true")
	expect(t, "not in the row", shown(impl.IsTableRounding(rows, [][]int64{{0, 1}, {0, 1}}), impl.IsTableRounding(rows, [][]int64{{0, 0}, {1, 2}})), "false false")
	columns := table(3, row(1, 2), row(2, 7))
	expect(t, "columns", shown(checkTable(t, columns))+both(impl.RoundTable(columns)), "2[[0 1] [1 2]] true")
	// Only the sum of all elements is an integer, so one of them is rounded up.
	whole := table(4, row(1, 1), row(1, 1))
	expect(t, "total", shown(checkTable(t, whole))+both(impl.RoundTable(whole)), "4[[0 0] [0 1]] true")
	expect(t, "not in the total", shown(impl.IsTableRounding(whole, [][]int64{{0, 0}, {0, 0}}), impl.IsTableRounding(whole, [][]int64{{0, 1}, {1, 0}})), "false false")
	expect(t, "nor its nearest elements", three(impl.NearestTable(whole)), "[[0 0] [0 1]] 6 true")
	all := table(2, square(1, 4, 4)...)
	expect(t, "all sums", both(impl.RoundTable(all)), "[[0 0 1 1] [0 0 1 1] [1 1 0 0] [1 1 0 0]] true")
}

func TestSumsThatAreNoIntegers(t *testing.T) {
	x := table(10, row(1, 3), row(3, 6))
	expect(t, "count", shown(checkTable(t, x)), "6")
	expect(t, "least", both(impl.RoundTable(x)), "[[0 0] [0 1]] true")
	expect(t, "rows and columns are right, but the total is not", shown(impl.IsTableRounding(x, [][]int64{{0, 0}, {0, 0}})), "false")
	y := table(10, row(9, 9), row(9, 9))
	expect(t, "greatest total", shown(impl.IsTableRounding(y, [][]int64{{1, 1}, {1, 1}}), impl.IsTableRounding(y, [][]int64{{0, 1}, {1, 0}})), "true false")
}

func TestNearestTable(t *testing.T) {
	x := table(10, row(9, 1), row(1, 9))
	expect(t, "not the least one", both(impl.RoundTable(x))+three(impl.NearestTable(x)), "[[0 1] [1 0]] true[[1 0] [0 1]] 4 true")
	expect(t, "not the nearest integers", three(impl.NearestTable(table(10, row(4, 4, 4)))), "[[0 0 1]] 14 true")
	expect(t, "the least one of two", three(impl.NearestTable(table(2, row(1, 1), row(1, 1)))), "[[0 1] [1 0]] 4 true")
	expect(t, "the least one of several", three(impl.NearestTable(table(3, row(1, 1, 1), row(1, 1, 1), row(1, 1, 1)))), "[[0 0 1] [0 1 0] [1 0 0]] 12 true")
	// The first two rows are nearest to 1, 0 and 0, 1, but the others are as near to 0, 1 and 1, 0 as to 1, 0 and 0, 1.
	expect(t, "the least one of two, which is not the least one of all", three(impl.NearestTable(table(10, row(9, 1, 0, 0), row(1, 9, 0, 0), row(0, 0, 5, 5), row(0, 0, 5, 5)))), "[[1 0 0 0] [0 1 0 0] [0 0 0 1] [0 0 1 0]] 24 true")
	// If the first row were 1, 0, 0, then the 6 or the 9 below would have to be rounded down.
	expect(t, "decided by the first column", three(impl.NearestTable(table(10, row(5, 5, 0), row(9, 1, 10), row(6, 5, 9)))), "[[0 1 0] [1 0 1] [1 0 1]] 22 true")
	for _, list := range [][][]int64{x.Rows, square(4, 3, 3), square(1, 1, 5)} {
		checkTable(t, table(10, list...))
	}
}

func TestElementsOfZeroAndOfMaxEntry(t *testing.T) {
	x := table(7, row(0, impl.MaxEntry, 0), row(impl.MaxEntry, 0, 0))
	expect(t, "count", shown(checkTable(t, x)), "3")
	expect(t, "least", both(impl.RoundTable(x)), "[[0 14285 0] [14286 0 0]] true")
	expect(t, "nearest", three(impl.NearestTable(x)), "[[0 14286 0] [14286 0 0]] 4 true")
	y := table(999, square(impl.MaxEntry, 2, 5)...)
	checkTable(t, y)
	expect(t, "sums", both(impl.RowSums(y))+both(impl.ColumnSums(y)), "[500000 500000] true[200000 200000 200000 200000 200000] true")
	checkTable(t, table(impl.MaxDen, row(1, impl.MaxEntry-1), row(impl.MaxEntry, 999)))
}
