package tests

import (
	"math"
	"slices"
	"testing"

	"loop.example/g01129/impl"
)

// The tests of this file are for promise 12: even calendars, calendars of rules, and best cycles.

// leapsOf returns the leap years of a cycle, given as a word in which they are b.
func leapsOf(word string) []int64 {
	var leaps []int64
	for i := range len(word) {
		if word[i] == 'b' {
			leaps = append(leaps, int64(i))
		}
	}
	return leaps
}

// evenBy returns the even calendar as it is defined.
func evenBy(cycle, leaps, common, shift int64) impl.Calendar {
	return calendar(cycle, common, leapsOf(lineOf(leaps, cycle, shift, cycle))...)
}

// checkEven checks an even calendar and how far it is from its mean year.
func checkEven(t *testing.T, cycle, leaps, common, shift int64) {
	t.Helper()
	c, ok := impl.EvenCalendar(cycle, leaps, common, shift)
	what := shown(cycle, leaps, common, shift)
	if want := evenBy(cycle, leaps, common, shift); !ok || c.Cycle != cycle || c.Common != common || !slices.Equal(c.Leaps, want.Leaps) {
		t.Errorf("even calendar %s: got %v and %v, want %v", what, c, ok, want)
	}
	if !impl.ValidCalendar(c) || int64(len(c.Leaps)) != leaps {
		t.Errorf("even calendar %s is not valid or has other leap years: %v", what, c)
	}
	num, den, _ := impl.MeanYear(c)
	if drift, ok := impl.DriftOf(c, num, den); drift >= den || !ok || drift != driftBy(c, num, den) {
		t.Errorf("drift of the even calendar %s: got %d and %v, want less than %d", what, drift, ok, den)
	}
}

func TestEvenCalendarsOfSmallCycles(t *testing.T) {
	for cycle := int64(1); cycle <= 14; cycle++ {
		for leaps := range cycle + 1 {
			for shift := range cycle {
				checkEven(t, cycle, leaps, 365, shift)
			}
		}
	}
}

func TestEvenCalendarsOfAllShifts(t *testing.T) {
	// Beyond 120 years, a cycle has more years than LineWord takes letters.
	for _, cycle := range []int64{33, 119, 120, 121, 128, 399, 400} {
		for _, leaps := range []int64{0, 1, cycle/4 - 3, cycle / 2, cycle - 1, cycle} {
			for shift := range cycle {
				checkEven(t, cycle, leaps, 1+shift, shift)
			}
		}
	}
}

func TestEvenCalendarsOfAnyNumbers(t *testing.T) {
	rule := numbers(130)
	for range 1000 {
		cycle := rule.next(1, impl.MaxCycle)
		checkEven(t, cycle, rule.next(0, cycle), rule.next(1, impl.MaxCommon), rule.next(0, cycle-1))
	}
}

func TestEvenCalendarsAreWordsOfLines(t *testing.T) {
	rule := numbers(131)
	for range 500 {
		cycle := rule.next(1, impl.MaxLetters)
		leaps, shift := rule.next(0, cycle), rule.next(0, cycle-1)
		word, _ := impl.LineWord(leaps, cycle, shift, cycle)
		c, ok := impl.EvenCalendar(cycle, leaps, 365, shift)
		expect(t, "leap years of "+word, both(c.Leaps, ok)+shown(impl.IsBalanced(word)), both(leapsOf(word), true)+"true")
	}
}

func TestEvenCalendar(t *testing.T) {
	for _, at := range []struct {
		cycle, leaps, shift int64
		want                []int64
	}{
		{1, 0, 0, nil}, {1, 1, 0, row(0)}, {2, 1, 0, row(1)}, {2, 1, 1, row(0)}, {4, 1, 0, row(3)}, {4, 1, 1, row(2)}, {4, 1, 3, row(0)}, {5, 2, 0, row(2, 4)}, {5, 2, 1, row(1, 4)}, {5, 2, 2, row(1, 3)}, {5, 2, 3, row(0, 3)}, {5, 2, 4, row(0, 2)},
		{5, 0, 4, nil}, {5, 5, 0, upTo(0, 4)}, {5, 5, 4, upTo(0, 4)}, {400, 0, 399, nil}, {400, 400, 0, upTo(0, 399)}, {400, 400, 399, upTo(0, 399)}, {400, 1, 0, row(399)}, {400, 1, 399, row(0)}, {400, 4, 0, row(99, 199, 299, 399)}, {400, 399, 0, upTo(1, 399)}, {33, 8, 0, row(4, 8, 12, 16, 20, 24, 28, 32)},
	} {
		for _, common := range []int64{1, 365, 1000} {
			expect(t, "even "+shown(at), both(impl.EvenCalendar(at.cycle, at.leaps, common, at.shift)), both(calendar(at.cycle, common, at.want...), true))
		}
	}
}

func TestCalendarsThatAreNotEvenDifferByADay(t *testing.T) {
	for _, c := range []impl.Calendar{calendar(4, 365, 0, 1), calendar(4, 365, 2, 3), calendar(8, 365, 0, 1, 2), calendar(400, 365, 0, 1, 2), centuries(t)} {
		num, den, _ := impl.MeanYear(c)
		drift, ok := impl.DriftOf(c, num, den)
		expect(t, "drift of "+shown(c), shown(drift >= den, ok), "true true")
	}
}

func TestEvenCalendarsBeyondTheLimitsFail(t *testing.T) {
	for _, at := range [][4]int64{
		{0, 0, 365, 0}, {-1, 0, 365, 0}, {401, 97, 365, 0}, {401, 0, 365, 0}, {5, -1, 365, 0}, {5, 6, 365, 0}, {1, 2, 365, 0}, {400, 401, 365, 0}, {5, 2, 0, 0}, {5, 2, -1, 0}, {5, 2, 1001, 0}, {5, 2, 365, -1}, {5, 2, 365, 5}, {1, 0, 365, 1}, {1, 1, 365, 1}, {400, 97, 365, 400}, {5, 2, 365, 6}, {5, 0, 365, 5}, {5, 5, 365, 5},
	} {
		expect(t, "even "+shown(at), both(impl.EvenCalendar(at[0], at[1], at[2], at[3])), noCalendar)
	}
	for _, n := range []int64{-1, math.MinInt64, math.MinInt64 + 1, -1 << 32, 1 << 32, 1<<32 + 3, 1 << 62, math.MaxInt64 - 1, math.MaxInt64} {
		expect(t, "even "+shown(n), both(impl.EvenCalendar(n, 2, 365, 0))+both(impl.EvenCalendar(5, n, 365, 0))+both(impl.EvenCalendar(5, 2, n, 0))+both(impl.EvenCalendar(5, 2, 365, n))+both(impl.EvenCalendar(n, n, n, n))+both(impl.EvenCalendar(n, n, 365, 0)), noCalendar+noCalendar+noCalendar+noCalendar+noCalendar+noCalendar)
	}
}

// isRuledLeap reports whether an odd number of rules divide a year.
func isRuledLeap(rules []int64, year int64) bool {
	count := 0
	for _, rule := range rules {
		if year-year/rule*rule == 0 {
			count++
		}
	}
	return count%2 != 0
}

// checkRules checks a calendar of rules, also for years that come behind its first cycle.
func checkRules(t *testing.T, rules []int64, common int64) {
	t.Helper()
	c, ok := impl.RuleCalendar(rules, common)
	if !ok || c.Cycle != rules[len(rules)-1] || c.Common != common || !impl.ValidCalendar(c) {
		t.Errorf("calendar of %v: got %v and %v", rules, c, ok)
	}
	for year := range 3*c.Cycle + 5 {
		for _, n := range []int64{year, impl.MaxYear - year} {
			if impl.IsLeap(c, n) != isRuledLeap(rules, n) {
				t.Errorf("leap year %d by %v: got %v", n, rules, impl.IsLeap(c, n))
			}
		}
	}
}

// manyRules are rules of one number and of more, up to MaxRules.
func manyRules(seed uint64, count int) [][]int64 {
	rule := numbers(seed)
	all := [][]int64{
		{1}, {2}, {3}, {4}, {399}, {400}, {1, 2}, {1, 400}, {200, 400}, {2, 4}, {4, 100, 400}, {1, 2, 4, 8, 16}, {25, 50, 100, 200, 400}, {1, 3, 9, 27, 81}, {24, 48, 96, 192, 384}, {1, 2, 4, 8, 400}, {3, 6, 12, 24, 384}, {7, 14}, {1, 4, 100, 400}, {4, 8, 16, 32},
	}
	for i := range count {
		var rules []int64
		last := rule.next(1, 6)
		for len(rules) <= i%impl.MaxRules && last <= impl.MaxCycle {
			rules = append(rules, last)
			last *= rule.next(2, 4)
		}
		all = append(all, rules)
	}
	return all
}

func TestRuleCalendars(t *testing.T) {
	rule := numbers(132)
	for _, rules := range manyRules(133, 200) {
		checkRules(t, rules, rule.next(1, impl.MaxCommon))
	}
	for n := int64(1); n <= impl.MaxCycle; n++ {
		expect(t, "one rule "+shown(n), both(impl.RuleCalendar(row(n), 365)), both(calendar(n, 365, 0), true))
	}
}

func TestRuleCalendar(t *testing.T) {
	for _, at := range []struct{ rules, leaps []int64 }{
		{row(1), row(0)}, {row(4), row(0)}, {row(400), row(0)}, {row(1, 2), row(1)}, {row(2, 4), row(2)}, {row(1, 5), row(1, 2, 3, 4)}, {row(2, 4, 8), row(0, 2, 6)}, {row(1, 2, 4), row(0, 1, 3)}, {row(1, 2, 4, 8, 16), row(0, 1, 3, 4, 5, 7, 9, 11, 12, 13, 15)}, {row(1, 2, 4, 8), row(1, 3, 4, 5, 7)},
	} {
		for _, common := range []int64{1, 365, 1000} {
			expect(t, "calendar of "+shown(at.rules), both(impl.RuleCalendar(at.rules, common)), both(calendar(at.rules[len(at.rules)-1], common, at.leaps...), true))
		}
	}
}

// noRules are lists that are no rules.
func noRules() [][]int64 {
	all := [][]int64{
		nil, {}, {0}, {-1}, {401}, {4, 6}, {4, 4}, {1, 1}, {8, 4}, {4, 100, 200, 100}, {4, 100, 400, 400}, {4, 100, 401}, {4, 100, 800}, {3, 4}, {2, 3}, {4, 100, 250}, {5, 10, 15}, {0, 4}, {4, 0}, {0, 0}, {-4, 4}, {4, -4}, {-4}, {-4, -2}, {1, 0}, {400, 400}, {400, 800}, {200, 399},
		{1, 2, 4, 8, 16, 32}, {1, 2, 4, 8, 16, 16}, {2, 4, 8, 16, 32, 64}, {1, 2, 4, 8, 16, 401}, {1, 2, 4, 8, 12}, {1, 2, 4, 6, 12}, repeated(1, 5), repeated(1, 6), repeated(400, 3000), upTo(1, 5), upTo(0, 4), upTo(1, 2000),
	}
	for _, n := range []int64{math.MinInt64, math.MinInt64 + 1, -1 << 32, 1 << 32, 1<<32 + 4, 1 << 62, math.MaxInt64 - 1, math.MaxInt64} {
		all = append(all, row(n), row(4, n), row(n, 4), row(1, n), row(4, n, 400), row(n, n), row(4, 100, n))
	}
	return all
}

func TestRulesThatAreNoneFail(t *testing.T) {
	for _, rules := range noRules() {
		for _, common := range []int64{1, 365, 1000} {
			expect(t, "calendar of "+shown(rules), both(impl.RuleCalendar(rules, common)), noCalendar)
		}
	}
	for _, common := range []int64{0, -1, 1001, math.MinInt64, math.MaxInt64, 1 << 32, 1<<32 + 365} {
		for _, rules := range manyRules(134, 20) {
			expect(t, "calendar of "+shown(rules, common), both(impl.RuleCalendar(rules, common)), noCalendar)
		}
	}
}

// bestCycleBy tries all numbers of leap years in all cycles, and returns the best one, and how many others are as near.
func bestCycleBy(num, den, most int64) (leaps, cycle int64, others int) {
	leaps, cycle = 0, 1
	distance := func(n, of int64) int64 { return max(n*den-num*of, num*of-n*den) }
	for of := int64(1); of <= most; of++ {
		for n := int64(0); n <= of; n++ {
			switch here, there := distance(n, of)*cycle, distance(leaps, cycle)*of; {
			case here < there:
				leaps, cycle, others = n, of, 0
			case here == there:
				others++
			}
		}
	}
	// The first one was counted with itself if it stayed, and the one that is found is not compared with itself otherwise.
	if leaps == 0 && cycle == 1 {
		others--
	}
	return leaps, cycle, others
}

func TestBestCyclesOfSmallFractions(t *testing.T) {
	alone, together := 0, 0
	for den := int64(1); den <= 20; den++ {
		for num := range den + 1 {
			for most := int64(1); most <= 24; most++ {
				leaps, cycle, others := bestCycleBy(num, den, most)
				expect(t, "best cycle "+shown(num, den, most), three(impl.BestCycle(num, den, most)), three(leaps, cycle, true))
				if others == 0 {
					alone++
				} else {
					together++
				}
			}
		}
	}
	expect(t, "cycles that are nearest alone, and others", shown(alone > 100, together > 100), "true true")
}

func TestBestCyclesOfAnyFractions(t *testing.T) {
	rule := numbers(135)
	for i := range 150 {
		den := rule.next(1, impl.MaxDen)
		num, most := rule.next(0, den), rule.next(1, impl.MaxCycle)
		switch i % 5 {
		case 0:
			most = impl.MaxCycle
		case 1:
			den, num = impl.MaxDen, rule.next(0, impl.MaxDen)
		}
		leaps, cycle, _ := bestCycleBy(num, den, most)
		expect(t, "best cycle "+shown(num, den, most), three(impl.BestCycle(num, den, most)), three(leaps, cycle, true))
	}
}

func TestBestCycle(t *testing.T) {
	for _, at := range []struct {
		num, den, most int64
		want           string
	}{
		{97, 400, 40, "8 33"}, {97, 400, 400, "97 400"}, {97, 400, 399, "89 367"}, {97, 400, 4, "1 4"}, {97, 400, 3, "1 3"}, {0, 1, 1, "0 1"}, {0, 1000, 400, "0 1"}, {0, 7, 1, "0 1"}, {1, 1, 1, "1 1"}, {1000, 1000, 400, "1 1"}, {7, 7, 3, "1 1"},
		// Both numbers of leap years of one year are as near to a half.
		{1, 2, 1, "0 1"}, {500, 1000, 1, "0 1"}, {1, 2, 2, "1 2"}, {50, 100, 400, "1 2"},
		// 1/4 is as near to 0 as to 1/2, and 3/4 to 1/2 as to 1.
		{1, 4, 1, "0 1"}, {1, 4, 2, "0 1"}, {1, 4, 3, "1 3"}, {1, 4, 4, "1 4"}, {3, 4, 1, "1 1"}, {3, 4, 2, "1 1"}, {3, 4, 3, "2 3"}, {3, 4, 4, "3 4"},
		// 5/12 is as near to 1/3 as to 1/2, and 7/12 to 1/2 as to 2/3.
		{5, 12, 3, "1 2"}, {7, 12, 3, "1 2"}, {5, 12, 2, "1 2"}, {5, 12, 5, "2 5"}, {5, 12, 12, "5 12"}, {1, 6, 3, "0 1"}, {5, 6, 3, "1 1"},
		{1, 1000, 400, "0 1"}, {999, 1000, 400, "1 1"}, {2, 1000, 400, "1 400"}, {2, 1000, 250, "0 1"}, {2, 1000, 251, "1 251"}, {1, 3, 1, "0 1"}, {2, 3, 1, "1 1"}, {667, 1000, 400, "2 3"},
	} {
		got := three(impl.BestCycle(at.num, at.den, at.most))
		leaps, cycle, _ := bestCycleBy(at.num, at.den, at.most)
		expect(t, "best cycle "+shown(at), got, at.want+" true")
		expect(t, "best cycle by trial "+shown(at), shown(leaps, cycle), at.want)
	}
}

func TestBestCyclesBeyondTheLimitsFail(t *testing.T) {
	for _, at := range [][3]int64{{1, 0, 1}, {0, 0, 1}, {-1, 1, 1}, {2, 1, 1}, {8, 7, 5}, {1001, 1000, 5}, {1, 1001, 5}, {1001, 1001, 5}, {0, -1, 5}, {-1, -1, 5}, {-2, -1, 5}, {97, 400, 0}, {97, 400, -1}, {97, 400, 401}, {0, 1, 0}, {1, 1, 0}, {0, 1, 401}} {
		expect(t, "best cycle "+shown(at), three(impl.BestCycle(at[0], at[1], at[2])), noYear)
	}
	for _, n := range []int64{-1, math.MinInt64, math.MinInt64 + 1, -1 << 32, 1 << 32, 1<<32 + 3, 1 << 62, math.MaxInt64 - 1, math.MaxInt64} {
		expect(t, "best cycle "+shown(n), three(impl.BestCycle(n, 400, 40))+three(impl.BestCycle(97, n, 40))+three(impl.BestCycle(97, 400, n))+three(impl.BestCycle(n, n, 40))+three(impl.BestCycle(n, n, n)), noYear+noYear+noYear+noYear+noYear)
	}
}
