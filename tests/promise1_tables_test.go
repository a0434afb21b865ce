package tests

import (
	"math"
	"slices"
	"testing"

	"loop.example/g01129/impl"
)

// The tests of this file are for promise 1 and the functions of chapter 5.

// anyRows are rows of all kinds: those of tables and others.
func anyRows() [][][]int64 {
	rows := [][][]int64{
		{{0, 1}, {1, 0}}, {{1, 1}, {1, 1}}, {{3, 5, 2}}, {{3}, {5}, {2}}, {{1, 2, 4}, {8, 0, 5}, {7, 7, 7}}, {{2, 0, 0}, {0, 9, 0}}, square(1, 3, 5), square(4, 5, 5), square(impl.MaxEntry, 5, 5),
		square(math.MaxInt64, 5, 5), square(math.MinInt64, 5, 5), square(math.MaxInt64, 2, 2), square(math.MinInt64, 1, 1), square(1, 40, 40), square(1, 3000, 1), slices.Repeat([][]int64{nil}, 3000),
	}
	for _, x := range invalidTables() {
		rows = append(rows, x.Rows)
	}
	return append(rows, anyGroups()...)
}

// anyMarginLists are margins of all kinds, sets of rows or columns, and other lists.
func anyMarginLists() [][]int64 {
	return [][]int64{
		nil, {}, {0}, {1}, {3}, {0, 1}, {1, 0}, {1, 1}, {2, 0}, {5, 7, 1}, {4, 4, 4}, {0, 1, 2}, {10, 10, 10, 10, 10}, repeated(500000, 5), {impl.MaxNum, 0}, {impl.MaxNum + 1, 0}, {-1, 2},
		{math.MinInt64}, {math.MaxInt64}, {math.MaxInt64, math.MaxInt64}, {math.MinInt64, math.MinInt64}, repeated(math.MaxInt64, 5), repeated(0, 40), repeated(1, 3000),
	}
}

// anyDens are denominators, and numbers that are none.
func anyDens() []int64 {
	return []int64{math.MinInt64, -1, 0, 1, 2, 7, impl.MaxDen, impl.MaxDen + 1, math.MaxInt64}
}

// tableResults calls all functions of a table alone.
func tableResults(x impl.Table) string {
	return shown(impl.ValidTable(x)) + both(impl.RowSums(x)) + both(impl.ColumnSums(x)) + both(impl.RoundTable(x)) + both(impl.CountTables(x)) + three(impl.NearestTable(x)) + both(impl.TableText(x))
}

func TestTablesReturnRepeatAndChangeNothing(t *testing.T) {
	for _, list := range anyRows() {
		rows, isSame := guardedGroups(list)
		for _, den := range anyDens() {
			twice(t, "tables", func() string { return tableResults(impl.Table{Den: den, Rows: rows}) })
		}
		if !isSame() {
			t.Errorf("a function of tables changes %v", list)
		}
	}
}

func TestIsTableRoundingReturnsRepeatsAndChangesNothing(t *testing.T) {
	for _, list := range anyRows() {
		for _, other := range anyRows() {
			rows, isSameRows := guardedGroups(list)
			ints, isSameInts := guardedGroups(other)
			x := impl.Table{Den: 2, Rows: rows}
			twice(t, "two tables", func() string {
				return shown(impl.IsTableRounding(x, ints), impl.IsMarginRounding(x, row(1, 1), row(1, 1), ints), impl.IsMarginRounding(x, repeated(5, len(rows)), repeated(5, 5), ints))
			})
			if !isSameRows() || !isSameInts() {
				t.Errorf("a function of a table and rows changes %v or %v", list, other)
			}
		}
	}
}

func TestMarginsReturnRepeatAndChangeNothing(t *testing.T) {
	for _, list := range anyRows() {
		for i, first := range anyMarginLists() {
			rows, isSameRows := guardedGroups(list)
			across, isSameAcross := guarded(first)
			for _, second := range anyMarginLists()[i:] {
				down, isSameDown := guarded(second)
				for _, den := range []int64{0, 1, 2, impl.MaxDen} {
					x := impl.Table{Den: den, Rows: rows}
					twice(t, "margins", func() string {
						return both(impl.RoundWithMargins(x, across, down)) + shown(impl.IsMarginRounding(x, down, across, rows), impl.IsCut(x, across, down, across, down)) + three(impl.CutFor(x, down, across))
					})
				}
				if !isSameDown() {
					t.Errorf("a function of margins changes %v", second)
				}
			}
			if !isSameRows() || !isSameAcross() {
				t.Errorf("a function of margins changes %v or %v", list, first)
			}
		}
	}
}

func TestIsCutReturnsRepeatsAndChangesNothing(t *testing.T) {
	x := table(2, row(1, 1), row(1, 1))
	for _, first := range anyMarginLists() {
		for _, second := range anyMarginLists() {
			some, isSameSome := guarded(first)
			others, isSameOthers := guarded(second)
			twice(t, "sets", func() string {
				return shown(impl.IsCut(x, row(2, 0), row(2, 0), some, others), impl.IsCut(x, some, others, row(0), row(1)), impl.IsCut(table(2, row(1)), row(1), row(1), some, others))
			})
			if !isSameSome() || !isSameOthers() {
				t.Errorf("IsCut changes %v or %v", first, second)
			}
		}
	}
}

func TestReadTableReturnsAndRepeats(t *testing.T) {
	for _, s := range append(anyTexts(), wrongTableTexts()...) {
		twice(t, "texts", func() string { return both(impl.ReadTable(s)) })
	}
}

// checkNewRows overwrites the rows that a call returns, one by one, and checks that this changes neither other rows nor other results nor the arguments.
func checkNewRows(t *testing.T, name string, arguments func() string, call func() [][]int64) {
	t.Helper()
	given := arguments()
	first, second := call(), call()
	kept := shown(second)
	for i, list := range first {
		overwritten(list)
		expect(t, name+": the next rows", shown(first[i+1:]), shown(second[i+1:]))
	}
	all := first[:cap(first)]
	for i := range all {
		all[i] = row(spare)
	}
	expect(t, name+" after its first result is overwritten", shown(second), kept)
	expect(t, name+" once more", shown(call()), kept)
	expect(t, name+" and its arguments", arguments(), given)
}

func TestTablesReturnNewRows(t *testing.T) {
	x := table(4, row(3, 5, 8), row(1, 2, 0))
	exact := table(1, row(3, 5, 8), row(1, 2, 0))
	across, down := row(5, 1), row(2, 2, 2)
	exactAcross, exactDown := row(16, 3), row(4, 7, 8)
	for name, call := range map[string]func() ([][]int64, bool){
		"RoundTable":                   func() ([][]int64, bool) { return impl.RoundTable(x) },
		"RoundTable of integers":       func() ([][]int64, bool) { return impl.RoundTable(exact) },
		"NearestTable":                 func() ([][]int64, bool) { r, _, ok := impl.NearestTable(x); return r, ok },
		"NearestTable of integers":     func() ([][]int64, bool) { r, _, ok := impl.NearestTable(exact); return r, ok },
		"RoundWithMargins":             func() ([][]int64, bool) { return impl.RoundWithMargins(x, across, down) },
		"RoundWithMargins of integers": func() ([][]int64, bool) { return impl.RoundWithMargins(exact, exactAcross, exactDown) },
		"ReadTable":                    func() ([][]int64, bool) { r, ok := impl.ReadTable("4:3,5,8/1,2,0"); return r.Rows, ok },
	} {
		checkNewRows(t, name, func() string { return shown(x, exact, across, down, exactAcross, exactDown) }, func() [][]int64 {
			rows, ok := call()
			if !ok {
				t.Errorf("%s fails", name)
			}
			return rows
		})
	}
}

func TestTablesReturnNewLists(t *testing.T) {
	x := table(2, row(1, 1, 1), row(1, 1, 1), row(1, 1, 1))
	one := table(1, row(3))
	across, down := row(3, 3, 0), row(0, 6, 0)
	checkNewLists(t, func() string { return shown(x, one, across, down) }, map[string]func() ([]int64, []int64, bool){
		"RowSums":                func() ([]int64, []int64, bool) { r, ok := impl.RowSums(x); return r, nil, ok },
		"RowSums of one row":     func() ([]int64, []int64, bool) { r, ok := impl.RowSums(one); return r, nil, ok },
		"ColumnSums":             func() ([]int64, []int64, bool) { r, ok := impl.ColumnSums(x); return r, nil, ok },
		"ColumnSums of one row":  func() ([]int64, []int64, bool) { r, ok := impl.ColumnSums(one); return r, nil, ok },
		"CutFor":                 func() ([]int64, []int64, bool) { return impl.CutFor(x, across, down) },
		"CutFor without columns": func() ([]int64, []int64, bool) { return impl.CutFor(x, row(6, 0, 0), row(2, 2, 2)) },
		"CutFor without rows":    func() ([]int64, []int64, bool) { return impl.CutFor(table(1, row(2, 2)), row(3), row(2, 1)) },
	})
}

func TestTablesOfNilAndEmptyListsAreTheSame(t *testing.T) {
	for _, den := range anyDens() {
		results := func(none []int64, rows [][]int64) string {
			all := tableResults(impl.Table{Den: den, Rows: rows}) + tableResults(table(den, none)) + tableResults(table(den, none, none)) + tableResults(table(den, row(1), none))
			for _, x := range []impl.Table{{Den: den, Rows: rows}, table(den, none), table(den, row(4, 4))} {
				for _, margins := range [][2][]int64{{none, none}, {none, row(1)}, {row(1), none}, {row(5), row(2, 3)}} {
					all += both(impl.RoundWithMargins(x, margins[0], margins[1])) + three(impl.CutFor(x, margins[0], margins[1])) + shown(
						impl.IsTableRounding(x, rows), impl.IsTableRounding(x, [][]int64{none}), impl.IsMarginRounding(x, margins[0], margins[1], rows), impl.IsMarginRounding(x, margins[0], margins[1], [][]int64{none}),
						impl.IsCut(x, margins[0], margins[1], none, none), impl.IsCut(x, margins[0], margins[1], row(0), none), impl.IsCut(x, margins[0], margins[1], none, row(0)))
				}
			}
			return all
		}
		want := results(nil, nil)
		expect(t, "nil and empty", results(nil, [][]int64{}), want)
		expect(t, "empty and nil", results([]int64{}, nil), want)
		expect(t, "empty and empty", results([]int64{}, [][]int64{}), want)
	}
}
