package tests

import (
	"math"
	"slices"
	"testing"

	"loop.example/g01129/impl"
)

// The tests of this file are for promise 6: tables with many elements, and tables that are not valid.

// bounds are the least and the greatest sum that rows, columns and all elements can have.
type bounds struct{ rows, columns, all [][2]int64 }

// roundedBounds returns the bounds of sums that are rounded.
func roundedBounds(sums []int64, den int64) [][2]int64 {
	var list [][2]int64
	for _, num := range sums {
		ways := waysToRound(num, den)
		list = append(list, [2]int64{ways[0], ways[len(ways)-1]})
	}
	return list
}

// exactBounds returns the bounds of sums that are given.
func exactBounds(sums []int64) [][2]int64 {
	var list [][2]int64
	for _, n := range sums {
		list = append(list, [2]int64{n, n})
	}
	return list
}

// tableBounds returns the bounds of table roundings.
func tableBounds(x impl.Table) bounds {
	return bounds{roundedBounds(sumsOfRows(x.Rows), x.Den), roundedBounds(sumsOfColumns(x.Rows), x.Den), roundedBounds([]int64{sumOf(flat(x.Rows))}, x.Den)}
}

// marginBounds returns the bounds of margin roundings.
func marginBounds(across, down []int64) bounds {
	return bounds{exactBounds(across), exactBounds(down), [][2]int64{{math.MinInt64, math.MaxInt64}}}
}

// reached is how far the elements of a table are rounded, row by row, with the sums of the current row and of all columns.
type reached struct {
	index  int
	across int64
	down   [impl.MaxSide]int64
}

// walk counts the ways to round the elements of a table, one by one, so that all sums are within bounds.
type walk struct {
	nums    []int64
	den     int64
	columns int
	limits  bounds
	known   map[reached]int64
}

// walkOf returns the walk through a table.
func walkOf(x impl.Table, limits bounds) *walk {
	return &walk{flat(x.Rows), x.Den, len(x.Rows[0]), limits, map[reached]int64{}}
}

// within reports whether a sum is within its bounds.
func within(n int64, limit [2]int64) bool { return limit[0] <= n && n <= limit[1] }

// behind returns where the walk is after one more integer, and whether it can be there.
func (w *walk) behind(r reached, n int64) (reached, bool) {
	row, column := r.index/w.columns, r.index%w.columns
	r.index++
	r.across += n
	r.down[column] += n
	if r.down[column] > w.limits.columns[column][1] || r.across > w.limits.rows[row][1] {
		return r, false
	}
	if column == w.columns-1 {
		if !within(r.across, w.limits.rows[row]) {
			return r, false
		}
		r.across = 0
	}
	return r, true
}

// ways returns how many ways go to the end.
func (w *walk) ways(r reached) int64 {
	if r.index == len(w.nums) {
		for k, limit := range w.limits.columns {
			if !within(r.down[k], limit) {
				return 0
			}
		}
		if !within(sumOf(r.down[:]), w.limits.all[0]) {
			return 0
		}
		return 1
	}
	if count, ok := w.known[r]; ok {
		return count
	}
	count := int64(0)
	for _, n := range waysToRound(w.nums[r.index], w.den) {
		if next, ok := w.behind(r, n); ok {
			count += w.ways(next)
		}
	}
	w.known[r] = count
	return count
}

// least returns the least rows that are possible, and whether there are any.
func (w *walk) least() ([][]int64, bool) {
	var list []int64
	at := reached{}
	for _, num := range w.nums {
		for _, n := range waysToRound(num, w.den) {
			if next, ok := w.behind(at, n); ok && w.ways(next) > 0 {
				list, at = append(list, n), next
				break
			}
		}
	}
	if len(list) < len(w.nums) {
		return nil, false
	}
	return inRows(list, w.columns), true
}

// checkLargeTable checks the least table rounding by a walk, and the number of them if the elements are few enough.
func checkLargeTable(t *testing.T, x impl.Table) {
	t.Helper()
	w := walkOf(x, tableBounds(x))
	rows, ok := w.least()
	if !ok {
		t.Fatalf("no table rounding of %v", x)
	}
	expect(t, "least "+shown(x), both(impl.RoundTable(x)), both(rows, true))
	expect(t, "it is one "+shown(x), shown(impl.IsTableRounding(x, rows)), "true")
	checkSums(t, x)
	if openCount(x) > impl.MaxFree {
		expect(t, "count "+shown(x), both(impl.CountTables(x))+three(impl.NearestTable(x)), noNumber+noNearest)
	} else {
		expect(t, "count "+shown(x), both(impl.CountTables(x)), both(w.ways(reached{}), true))
	}
}

func TestTablesOfMaxSideRowsAndColumns(t *testing.T) {
	for den := int64(2); den <= 6; den++ {
		for n := range den {
			checkLargeTable(t, table(den, square(n, 5, 5)...))
			checkLargeTable(t, table(den, square(n, 5, 4)...))
			checkLargeTable(t, table(den, square(n, 4, 5)...))
		}
	}
	checkLargeTable(t, table(3, square(impl.MaxEntry, 5, 5)...))
	checkLargeTable(t, table(997, square(impl.MaxEntry, 5, 5)...))
	checkLargeTable(t, table(impl.MaxDen, square(1, 5, 5)...))
	checkLargeTable(t, table(impl.MaxDen, square(999, 5, 5)...))
	rule := numbers(12)
	for _, most := range []int{25, 20, 15, 14, 10} {
		for range 12 {
			checkLargeTable(t, rule.anyTable(5, 5, most))
			checkLargeTable(t, rule.anyTable(int(rule.next(3, 5)), int(rule.next(3, 5)), most))
		}
	}
}

func TestMaxFreeAndOneMore(t *testing.T) {
	for _, x := range []impl.Table{table(2, square(1, 3, 5)...), table(3, square(1, 5, 3)...), table(10, square(4, 5, 5)...)} {
		x.Rows = slices.Collect(slices.Chunk(slices.Clone(flat(x.Rows)), len(x.Rows[0])))
		list := x.Rows[len(x.Rows)-1]
		for i := 0; openCount(x) > impl.MaxFree+1; i++ {
			x.Rows[i/5][i%5] = 2 * x.Den
		}
		expect(t, "elements", shown(openCount(x)), shown(impl.MaxFree+1))
		expect(t, "one more", both(impl.CountTables(x))+three(impl.NearestTable(x)), noNumber+noNearest)
		checkLargeTable(t, x)
		list[1] = 0
		expect(t, "elements", shown(openCount(x)), shown(impl.MaxFree))
		checkTable(t, x)
		checkLargeTable(t, x)
	}
	expect(t, "elements that are integers do not count", shown(checkTable(t, table(2, square(6, 5, 5)...))), "1")
}

// invalidTables pass one limit of tables, or have extreme numbers.
func invalidTables() []impl.Table {
	return []impl.Table{
		{}, table(1), table(2, nil), table(2, row()), table(2, row(), row()), table(2, nil, row(1)), table(2, row(1), nil), table(1, slices.Repeat([][]int64{nil}, 6)...),
		table(0, row(1)), table(-1, row(1)), table(-2, row(2, 2)), table(impl.MaxDen+1, row(1)), table(math.MinInt64, row(0)), table(math.MaxInt64, row(0)),
		table(2, row(1, 1), row(1)), table(2, row(1), row(1, 1)), table(2, row(1, 1), row(1, 1), row(1, 1, 1)), table(2, row(1, 1, 1), row(1, 1, 1), row(1, 1)),
		table(2, square(1, 6, 1)...), table(2, square(1, 1, 6)...), table(2, square(1, 6, 6)...), table(2, square(2, 6, 5)...), table(2, square(2, 5, 6)...), table(1, square(0, 3000, 1)...), table(1, square(0, 1, 3000)...),
		table(2, row(-1)), table(2, row(1, 1), row(1, -1)), table(2, row(-2, 2)), table(1, row(impl.MaxEntry+1)), table(2, row(0, 0), row(impl.MaxEntry+1, 0)), table(2, row(impl.MaxEntry+2, 0)),
		table(1, row(math.MinInt64)), table(1, row(math.MaxInt64)), table(3, row(math.MaxInt64, math.MaxInt64), row(0, 0)),
	}
}

func TestInvalidTablesFail(t *testing.T) {
	for _, x := range invalidTables() {
		what := shown(x)
		expect(t, "valid "+what, shown(impl.ValidTable(x)), "false")
		expect(t, "sums "+what, both(impl.RowSums(x))+both(impl.ColumnSums(x)), noList+noList)
		expect(t, "roundings "+what, both(impl.RoundTable(x))+both(impl.CountTables(x))+three(impl.NearestTable(x)), noRows+noNumber+noNearest)
		for _, rows := range [][][]int64{nil, {}, x.Rows, {{0}}, {{1}}, square(0, len(x.Rows), 1), square(0, 1, 6), square(1, 5, 5)} {
			expect(t, "rounding "+what, shown(impl.IsTableRounding(x, rows)), "false")
		}
		expect(t, "text "+what, both(impl.TableText(x)), noText)
		checkInvalidMargins(t, x, repeated(0, len(x.Rows)), []int64{0})
		checkInvalidMargins(t, x, []int64{1}, []int64{1})
	}
}

func TestIsTableRoundingOfOtherRows(t *testing.T) {
	x := table(2, row(1, 1), row(1, 1))
	shapes := [][][]int64{
		nil, {}, {nil}, {nil, nil}, {{}, {}}, {{0, 1}}, {{0, 1}, nil}, {{0, 1}, {1}}, {{1}, {0, 1}}, {{0, 1}, {1, 0}, {0, 0}}, {{0, 1}, {1, 0}, nil}, {{0, 1, 0}, {1, 0}}, {{0, 1}, {1, 0, 0}},
		{{0, 1, 0}, {1, 0, 0}}, {{0, 1, 1, 0}}, {{0}, {1}, {1}, {0}}, square(0, 3000, 2),
	}
	wrong := [][][]int64{{{2, -1}, {-1, 2}}, {{-1, 2}, {2, -1}}, {{0, 0}, {0, 0}}, {{1, 1}, {0, 0}}, {{0, 1}, {0, 1}}, {{math.MaxInt64, 1}, {1, math.MinInt64}}, {{math.MinInt64, math.MinInt64}, {math.MinInt64, math.MinInt64}}}
	for _, rows := range append(shapes, wrong...) {
		expect(t, "rows "+shown(rows), shown(impl.IsTableRounding(x, rows)), "false")
	}
	y := table(3, row(1), row(2), row(4))
	expect(t, "column", shown(impl.IsTableRounding(y, [][]int64{{0}, {1}, {1}}), impl.IsTableRounding(y, [][]int64{{0, 1, 1}}), impl.IsTableRounding(y, [][]int64{{0}, {1}}), impl.IsTableRounding(y, [][]int64{{0}, {1}, {1}, {}})), "true false false false")
}
