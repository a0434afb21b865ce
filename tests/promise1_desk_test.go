package tests

import (
	"math"
	"runtime"
	"slices"
	"strings"
	"sync"
	"testing"

	"loop.example/g01129/impl"
)

// The tests of this file are for promise 1 and the functions of chapter 11.

// guardedCalendar returns a copy of a calendar that has unused capacity, and a function that tells whether any of it was changed.
func guardedCalendar(c impl.Calendar) (impl.Calendar, func() bool) {
	leaps, isSame := guarded(c.Leaps)
	return impl.Calendar{Cycle: c.Cycle, Common: c.Common, Leaps: leaps}, isSame
}

// guardedTexts returns a copy of a list of texts that has unused capacity, and a function that tells whether any of it was changed.
func guardedTexts(list []string) ([]string, func() bool) {
	memory := append(slices.Clone(list), "spare", "", "spare")
	before := slices.Clone(memory)
	return memory[:len(list)], func() bool { return slices.Equal(memory, before) }
}

// guardedDesk returns a copy of a desk that has unused capacity, and a function that tells whether any of it was changed.
func guardedDesk(d impl.Desk) (impl.Desk, func() bool) {
	names, areSame := guardedTexts(d.Names)
	checks := []func() bool{areSame}
	memory := make([]impl.Values, len(d.Lists), len(d.Lists)+3)
	for i, v := range d.Lists {
		nums, isSame := guarded(v.Nums)
		memory[i] = impl.Values{Den: v.Den, Nums: nums}
		checks = append(checks, isSame)
	}
	all := append(memory, values(spare, spare), values(spare), values(spare, spare))
	before := shown(all)
	checks = append(checks, func() bool { return shown(all) == before })
	isSame := func() bool { return !slices.ContainsFunc(checks, func(check func() bool) bool { return !check() }) }
	return impl.Desk{Names: names, Lists: memory}, isSame
}

// anyCalendars are calendars of all kinds, and others that are not valid.
func anyCalendars() []impl.Calendar {
	all := append(manyCalendars(160, 30), noCalendars()...)
	for i, list := range anyLists() {
		all = append(all, calendar([]int64{1, 7, 400, 401}[i%4], 365, list...))
	}
	return all
}

// anyDays are numbers around the limits of chapter 11, and other numbers.
func anyDays() []int64 {
	return append(extremes(), 3, 4, 5, 33, 97, 365, 366, 399, 400, 401, 999, 1001, 99999, 100000, 100001, 36524249, 36524250, 1<<32, 1<<32+4, 1<<62)
}

func TestCalendarsReturnRepeatAndChangeNothing(t *testing.T) {
	for _, given := range anyCalendars() {
		c, isSame := guardedCalendar(given)
		twice(t, "calendars", func() string { return shown(impl.ValidCalendar(c)) + three(impl.MeanYear(c)) })
		for _, n := range anyDays() {
			twice(t, "years", func() string {
				return shown(impl.IsLeap(c, n)) + both(impl.DaysBefore(c, n)) + three(impl.YearOf(c, n)) + both(impl.DriftOf(c, n, 5)) + both(impl.DriftOf(c, 1827, n)) + both(impl.DriftOf(c, n, n))
			})
		}
		if !isSame() {
			t.Errorf("a function of calendars changes %v", given)
		}
	}
}

func TestMadeCalendarsReturnRepeatAndChangeNothing(t *testing.T) {
	for _, a := range anyDays() {
		for _, b := range []int64{math.MinInt64, -1, 0, 1, 2, 5, 97, 400, 401, 1000, 1001, math.MaxInt64} {
			for _, c := range []int64{math.MinInt64, -1, 0, 1, 4, 5, 399, 400, 401, 1000, 1001, math.MaxInt64} {
				twice(t, "even calendars", func() string {
					return both(impl.EvenCalendar(a, b, c, 0)) + both(impl.EvenCalendar(5, a, b, c)) + both(impl.EvenCalendar(400, b, a, c)) + both(impl.EvenCalendar(b, c, 365, a))
				})
				twice(t, "best cycles", func() string {
					return three(impl.BestCycle(a, b, c)) + three(impl.BestCycle(b, c, a)) + three(impl.BestCycle(c, a, b))
				})
			}
		}
	}
	for _, given := range append(append(anyLists(), noRules()...), manyRules(161, 40)...) {
		rules, isSame := guarded(given)
		for _, common := range anyDays() {
			twice(t, "calendars of rules", func() string { return both(impl.RuleCalendar(rules, common)) })
		}
		if !isSame() {
			t.Errorf("RuleCalendar changes %v", given)
		}
	}
}

// deskLines are lines of all kinds.
func deskLines() []string {
	lines := append(refusedLines(), unknownLines()...)
	for _, name := range []string{"a", "b", "d", "x", "zzzzzzzzz"} {
		lines = append(lines, "set "+name+" 2:1,1,1", "set "+name+" 1:-", "drop "+name, "show "+name, "near "+name, "run "+name, "best "+name, "feed "+name+" 0 1", "feed "+name+" -1000 1000")
	}
	return append(lines, "table 2:1,1/1,1", "word 2 5 5", "leaps 2 5", "leaps 40 400", strings.Repeat(" ", 1000000), "set "+strings.Repeat("x", 1000000)+" 1:1", "table "+strings.Repeat("1,", 500000), strings.Repeat("show b ", 100000))
}

func TestDesksReturnRepeatAndChangeNothing(t *testing.T) {
	lines := deskLines()
	for i, given := range append(validDesks(), noDesks()...) {
		d, isSame := guardedDesk(given)
		twice(t, "desks", func() string { return shown(impl.ValidDesk(d)) })
		for n, line := range lines {
			// Each desk that is not valid has some of the lines.
			if impl.ValidDesk(d) || n%7 == i%7 {
				twice(t, "commands", func() string { return three(impl.DeskCommand(d, line)) })
			}
		}
		for _, script := range []string{"", "\n", "x", "show b\n", "drop b\nset b 1:1\nset a 2:1\nset z 3:1\n", "set b 7:1,2,3\nset d 1:-\nset x 1:1\n", "drop b\ndrop d\ndrop f\n"} {
			twice(t, "scripts", func() string { return three(impl.RunDesk(d, script)) })
		}
		if !isSame() {
			t.Errorf("a function of desks changes %v", given)
		}
	}
}

func TestScriptsReturnAndRepeat(t *testing.T) {
	rule := numbers(162)
	scripts := append(anyTexts(), unknownLines()...)
	for range 200 {
		scripts = append(scripts, rule.anyScript(20), rule.anyScript(20)+rule.anyLine())
	}
	for _, script := range scripts {
		twice(t, "scripts", func() string {
			return three(impl.RunDesk(someDesk(), script)) + three(impl.RunDesk(impl.Desk{}, script+"\n")) + three(impl.DeskCommand(someDesk(), script))
		})
	}
}

func TestJournalsReturnRepeatAndChangeNothing(t *testing.T) {
	for _, given := range append(someJournals(163, 100), anyTexts(), anyTexts()[:1], unknownLines(), []string{"a\nb"}, make([]string, 5000), slices.Repeat([]string{strings.Repeat("x", 1000)}, 5)) {
		lines, isSame := guardedTexts(given)
		twice(t, "journals", func() string { return both(impl.JournalOf(lines)) })
		if !isSame() {
			t.Errorf("JournalOf changes %q", given)
		}
	}
	for _, s := range append(anyTexts(), anyLetters()...) {
		given := strings.Clone(s)
		twice(t, "texts", func() string { return recovered(impl.RecoverJournal(s)) })
		expect(t, "the text", shown(s == given), "true")
	}
}

func TestCalendarsReturnNewLists(t *testing.T) {
	rules := row(1, 2, 4, 8, 16)
	ofLeaps := func(c impl.Calendar, ok bool) ([]int64, []int64, bool) { return c.Leaps, nil, ok }
	checkNewLists(t, func() string { return shown(rules) }, map[string]func() ([]int64, []int64, bool){
		"EvenCalendar":                 func() ([]int64, []int64, bool) { return ofLeaps(impl.EvenCalendar(5, 2, 365, 0)) },
		"EvenCalendar of all years":    func() ([]int64, []int64, bool) { return ofLeaps(impl.EvenCalendar(400, 400, 365, 0)) },
		"EvenCalendar of no leap year": func() ([]int64, []int64, bool) { return ofLeaps(impl.EvenCalendar(5, 0, 365, 0)) },
		"RuleCalendar":                 func() ([]int64, []int64, bool) { return ofLeaps(impl.RuleCalendar(rules, 365)) },
		"RuleCalendar of one rule":     func() ([]int64, []int64, bool) { return ofLeaps(impl.RuleCalendar(rules[:1], 365)) },
	})
}

// overwrittenDesk sets all of a desk and its unused capacity to something else.
func overwrittenDesk(d impl.Desk) {
	for _, v := range d.Lists[:cap(d.Lists)] {
		overwritten(v.Nums)
	}
	names, lists := d.Names[:cap(d.Names)], d.Lists[:cap(d.Lists)]
	for i := range names {
		names[i] = "spare"
	}
	for i := range lists {
		lists[i] = values(spare, spare)
	}
}

func TestDesksReturnNewLists(t *testing.T) {
	scripts := []string{"", "\n", "show b\n", "fly\n", "show c\n", "set a 1:1,2\n", "set b 1:1,2\n", "set c 1:1,2\n", "set z 1:1,2\n", "drop b\n", "drop d\n", "drop f\n", "drop b\nset b 2:1\ndrop f\nset f 2:1\n", "set x 2:1,1\nset y 2:1,1\nset z 2:1,1\n", "set x 2:1,1\nset x 2:1,1\n", "drop b\ndrop d\ndrop f\nset a 1:1\n"}
	for _, entries := range [][]string{nil, {"b 2:1,1,1", "d 4:3,5", "f 1:-"}, {"b 1:1,2,3,4,5,6", "d 1:1", "f 2:1,1", "h 1:7"}, {"b 1:1", "d 1:2", "f 1:3", "h 1:4", "j 1:5", "k 1:6"}} {
		d, isSame := guardedDesk(desk(entries...))
		for _, script := range scripts {
			calls := map[string]func() (impl.Desk, string, bool){
				"script":  func() (impl.Desk, string, bool) { return impl.RunDesk(d, script) },
				"command": func() (impl.Desk, string, bool) { return impl.DeskCommand(d, strings.TrimSuffix(script, "\n")) },
			}
			for name, call := range calls {
				first, _, _ := call()
				second, output, ok := call()
				kept := three(second, output, ok)
				overwrittenDesk(first)
				expect(t, name+" after its first result is overwritten", three(second, output, ok), kept)
				checkApart(t, name, second)
				expect(t, name+" once more", three(call()), kept)
				if !isSame() {
					t.Fatalf("%s %q shares memory with its argument %v", name, script, entries)
				}
			}
		}
	}
}

// checkApart checks that no two lists of a desk share memory.
func checkApart(t *testing.T, what string, d impl.Desk) {
	t.Helper()
	for i, v := range d.Lists {
		others := func() string { return shown(d.Names, d.Lists[:i], d.Lists[i+1:]) }
		kept := others()
		overwritten(v.Nums)
		expect(t, what+" and its other lists", others(), kept)
	}
}

func TestRecoveredLinesAreNewLists(t *testing.T) {
	text, _ := impl.JournalOf([]string{"a", "", "show b"})
	first, length, _ := impl.RecoverJournal(text)
	second, _, _ := impl.RecoverJournal(text)
	for i := range first[:cap(first)] {
		first[:cap(first)][i] = "spare"
	}
	want := recovered([]string{"a", "", "show b"}, length, true)
	expect(t, "after the first result is overwritten", recovered(second, length, true), want)
	expect(t, "once more", recovered(impl.RecoverJournal(text)), want)
}

func TestDesksLeaveNothingRunning(t *testing.T) {
	const calls = 1000
	before := runtime.NumGoroutine()
	for range calls {
		impl.RunDesk(someDesk(), "show b\nfeed b 0 1\nfly\nfeed c 0 1\n")
		impl.RunDesk(someDesk(), "")
		impl.RunDesk(someDesk(), "no end")
		impl.RunDesk(desk("B 1:1"), "show b\n")
		impl.DeskCommand(someDesk(), "feed b 0 x")
	}
	if behind := runtime.NumGoroutine(); behind > before+calls/10 {
		t.Errorf("goroutines: %d before, %d behind", before, behind)
	}
}

func TestDesksAtTheSameTime(t *testing.T) {
	rule := numbers(164)
	d := someDesk()
	for range 20 {
		script := rule.anyScript(30)
		want := three(impl.RunDesk(d, script))
		var callers sync.WaitGroup
		results := make([]string, 8)
		for i := range results {
			callers.Go(func() { results[i] = three(impl.RunDesk(d, script)) })
		}
		callers.Wait()
		for _, got := range results {
			expect(t, "at the same time", got, want)
		}
	}
}

func TestDesksAndCalendarsOfNilAndEmptyListsAreTheSame(t *testing.T) {
	results := func(leaps []int64, names []string, lists []impl.Values) string {
		all := both(impl.RuleCalendar(leaps, 365)) + both(impl.JournalOf(names))
		for _, cycle := range anyDays() {
			c := calendar(cycle, 365, leaps...)
			c.Leaps = leaps
			all += shown(impl.ValidCalendar(c), impl.IsLeap(c, 0)) + both(impl.DaysBefore(c, 4)) + three(impl.YearOf(c, 1461)) + three(impl.MeanYear(c)) + both(impl.DriftOf(c, 365, 1))
		}
		for _, d := range []impl.Desk{{Names: names, Lists: lists}, {Names: []string{"x"}, Lists: []impl.Values{{Den: 1, Nums: leaps}}}, {Names: []string{"x"}, Lists: lists}, {Names: names, Lists: []impl.Values{values(1)}}} {
			all += shown(impl.ValidDesk(d)) + three(impl.RunDesk(d, "show x\nbest x\nset a 1:1\nfeed x 0 1\ndrop x\n")) + three(impl.DeskCommand(d, "set a 1:1")) + three(impl.DeskCommand(d, "near x"))
		}
		return all
	}
	want := results(nil, nil, nil)
	expect(t, "empty", results([]int64{}, []string{}, []impl.Values{}), want)
	expect(t, "empty with capacity", results(make([]int64, 0, 5), make([]string, 0, 5), make([]impl.Values, 0, 5)), want)
}
