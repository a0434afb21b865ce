package tests

import (
	"math"
	"math/big"
	"slices"
	"testing"

	"loop.example/g01129/impl"
)

// The tests of this file are for promise 12: calendars, their years and their days.

// noCalendar and noYear are what calls that fail must return.
var (
	noCalendar = shown(impl.Calendar{}, false)
	noYear     = shown(0, 0, false)
)

// calendar makes a calendar.
func calendar(cycle, common int64, leaps ...int64) impl.Calendar {
	return impl.Calendar{Cycle: cycle, Common: common, Leaps: leaps}
}

// centuries returns the calendar of the example, with 97 leap years in 400.
func centuries(t *testing.T) impl.Calendar {
	t.Helper()
	c, ok := impl.RuleCalendar([]int64{4, 100, 400}, 365)
	if !ok {
		t.Fatal("no calendar of 4, 100 and 400")
	}
	return c
}

func TestExamplesOfCalendars(t *testing.T) {
	c := centuries(t)
	expect(t, "leap years", shown(len(c.Leaps)), "97")
	expect(t, "mean year", three(impl.MeanYear(c)), "146097 400 true")
	expect(t, "even calendar", both(impl.EvenCalendar(5, 2, 365, 0)), both(calendar(5, 365, 2, 4), true))
	expect(t, "best cycle", three(impl.BestCycle(97, 400, 40)), "8 33 true")
}

// limitCalendars are calendars at the limits.
func limitCalendars() []impl.Calendar {
	return []impl.Calendar{
		calendar(1, 1), {Cycle: 1, Common: 1, Leaps: []int64{}}, calendar(1, 1, 0), calendar(1, 365), calendar(1, 365, 0), calendar(1, 1000), calendar(1, 1000, 0),
		calendar(2, 1), calendar(2, 365, 0), calendar(2, 365, 1), calendar(2, 365, 0, 1), calendar(3, 1, 1), calendar(4, 365, 0), calendar(4, 365, 3), calendar(4, 365, 0, 3), calendar(5, 365, 2, 4),
		calendar(400, 1), calendar(400, 1, 0), calendar(400, 1, 399), calendar(400, 1, 0, 399), calendar(400, 1000), calendar(400, 1000, upTo(0, 399)...), calendar(400, 1, upTo(0, 399)...), calendar(400, 1000, upTo(0, 398)...), calendar(400, 1000, upTo(1, 399)...),
		calendar(399, 1000, upTo(0, 398)...), calendar(64, 365, 63), calendar(65, 365, 63, 64), calendar(400, 365, 63, 64, 127, 128, 255, 256),
	}
}

// anyCalendar returns a calendar of which few or many years are leap years.
func (n *numbers) anyCalendar(most int64) impl.Calendar {
	c := calendar(n.next(1, most), n.next(1, impl.MaxCommon))
	many := n.next(0, 8)
	for year := range c.Cycle {
		if n.next(1, 8) <= many {
			c.Leaps = append(c.Leaps, year)
		}
	}
	return c
}

// manyCalendars are calendars of all kinds.
func manyCalendars(seed uint64, count int) []impl.Calendar {
	rule := numbers(seed)
	all := limitCalendars()
	for i := range count {
		all = append(all, rule.anyCalendar([]int64{3, 12, 40, impl.MaxCycle}[i%4]))
	}
	return all
}

// noCalendars are calendars that are not valid.
func noCalendars() []impl.Calendar {
	all := []impl.Calendar{{}, calendar(0, 365, 0), calendar(5, 0, 2), calendar(0, 0, 0)}
	for _, n := range []int64{0, -1, -5, math.MinInt64, math.MaxInt64, 1 << 32, 1<<32 + 5, 5 - 1<<32} {
		all = append(all, calendar(n, 365), calendar(n, 365, 0), calendar(5, n, 2, 4), calendar(n, n))
		if n != 0 {
			all = append(all, calendar(5, 365, n), calendar(5, 365, 0, n), calendar(5, 365, n, 0), calendar(5, 365, 2, n, 4))
		}
	}
	return append(all,
		calendar(401, 365), calendar(401, 365, 0), calendar(5, 1001), calendar(5, 1001, 2, 4), calendar(401, 1001),
		calendar(1, 365, 1), calendar(5, 365, 5), calendar(5, 365, 2, 5), calendar(400, 365, 400), calendar(400, 365, upTo(0, 400)...), calendar(400, 365, upTo(1, 400)...), calendar(1, 365, 0, 1),
		calendar(5, 365, 2, 2), calendar(5, 365, 4, 2), calendar(5, 365, 0, 0), calendar(5, 365, 0, 2, 1), calendar(5, 365, 0, 1, 1), calendar(1, 1, 0, 0), calendar(5, 365, 0, 1, 2, 3, 4, 4), calendar(5, 365, 0, 0, 1, 2, 3, 4),
		calendar(400, 365, repeated(0, 400)...), calendar(400, 365, repeated(7, 5000)...), calendar(3, 365, upTo(0, 3000)...),
	)
}

func TestValidCalendar(t *testing.T) {
	for _, c := range manyCalendars(120, 200) {
		expect(t, "valid "+shown(c), shown(impl.ValidCalendar(c)), "true")
	}
	for _, c := range noCalendars() {
		expect(t, "not valid "+shown(c), shown(impl.ValidCalendar(c)), "false")
	}
}

func TestCalendarsThatAreNotValidFail(t *testing.T) {
	for _, c := range noCalendars() {
		what := shown(c)
		for _, n := range []int64{0, 1, 2, 5, 400} {
			expect(t, "leap "+what, shown(impl.IsLeap(c, n)), "false")
			expect(t, "days before "+what, both(impl.DaysBefore(c, n)), noNumber)
			expect(t, "year of "+what, three(impl.YearOf(c, n)), noYear)
			expect(t, "drift "+what, both(impl.DriftOf(c, n, 1)), noNumber)
		}
		expect(t, "mean "+what, three(impl.MeanYear(c)), noYear)
	}
}

// isLeapBy reports whether a year is a leap year, as it is defined.
func isLeapBy(c impl.Calendar, year int64) bool {
	for _, n := range c.Leaps {
		if (year-n)%c.Cycle == 0 {
			return true
		}
	}
	return false
}

// daysOf returns the number of the days of a year.
func daysOf(c impl.Calendar, year int64) int64 {
	if isLeapBy(c, year) {
		return c.Common + 1
	}
	return c.Common
}

// isLookedAt reports whether tests look at a year: all of the first and of the last cycles, and some between them.
func isLookedAt(c impl.Calendar, year int64) bool {
	return year <= 2*c.Cycle+1 || year >= impl.MaxYear-c.Cycle-1 || year%997 == 0 || year%(20*c.Cycle) == 0
}

// checkYear checks what calendars tell of a year, given the days before it.
func checkYear(t *testing.T, c impl.Calendar, year, before int64) {
	t.Helper()
	days := daysOf(c, year)
	if got, ok := impl.DaysBefore(c, year); got != before || !ok {
		t.Errorf("days before %d in %v: got %d and %v, want %d", year, c, got, ok, before)
	}
	if got := impl.IsLeap(c, year); got != (days > c.Common) {
		t.Errorf("leap year %d in %v: got %v", year, c, got)
	}
	if year == impl.MaxYear {
		return
	}
	// The first day, the second one, one of the others, and the last one.
	for _, n := range []int64{0, min(1, days-1), days / 2, days - 1} {
		if y, d, ok := impl.YearOf(c, before+n); y != year || d != n || !ok {
			t.Errorf("year of %d in %v: got %d, %d and %v, want %d, %d", before+n, c, y, d, ok, year, n)
		}
	}
}

func TestYearsOfCalendars(t *testing.T) {
	for _, c := range manyCalendars(121, 60) {
		before := int64(0)
		for year := range int64(impl.MaxYear + 1) {
			if isLookedAt(c, year) {
				checkYear(t, c, year, before)
			}
			before += daysOf(c, year)
		}
	}
}

func TestYearsOfTheExample(t *testing.T) {
	c := centuries(t)
	for year, want := range map[int64]bool{0: true, 1: false, 3: false, 4: true, 96: true, 99: false, 100: false, 104: true, 200: false, 300: false, 396: true, 399: false, 400: true, 401: false, 404: true, 500: false, 800: true, 1900: false, 2000: true, 2024: true, 2026: false, 2100: false, 99999: false, 100000: true, 99900: false, 99996: true} {
		expect(t, "leap year "+shown(year), shown(impl.IsLeap(c, year)), shown(want))
	}
	for year, want := range map[int64]int64{0: 0, 1: 366, 2: 731, 4: 1461, 5: 1827, 100: 36525, 101: 36890, 399: 145732, 400: 146097, 401: 146463, 800: 292194, 100000: 36524250, 99999: 36523885} {
		expect(t, "days before "+shown(year), both(impl.DaysBefore(c, year)), both(want, true))
	}
	for day, want := range map[int64]string{0: "0 0", 365: "0 365", 366: "1 0", 730: "1 364", 731: "2 0", 146096: "399 364", 146097: "400 0", 146462: "400 365", 146463: "401 0", 36524249: "99999 364", 36523885: "99999 0", 36523884: "99998 364"} {
		expect(t, "year of "+shown(day), three(impl.YearOf(c, day)), want+" true")
	}
	expect(t, "behind the last day", three(impl.YearOf(c, 36524250)), noYear)
}

func TestEveryDayOfCalendars(t *testing.T) {
	for _, c := range []impl.Calendar{calendar(1, 1), calendar(1, 1, 0), calendar(2, 1, 0), calendar(2, 1, 1), calendar(3, 1, 1), calendar(3, 2, 0, 2), calendar(5, 3, 2, 4), calendar(7, 1, 0, 1, 6)} {
		day := int64(0)
		for year := range int64(impl.MaxYear) {
			isNear := year <= 500 || year >= impl.MaxYear-200
			for n := range daysOf(c, year) {
				if isNear {
					expect(t, "day "+shown(day, c), three(impl.YearOf(c, day)), three(year, n, true))
				}
				day++
			}
		}
		expect(t, "all days "+shown(c), both(impl.DaysBefore(c, impl.MaxYear)), both(day, true))
		expect(t, "behind the last day "+shown(c), three(impl.YearOf(c, day)), noYear)
	}
}

// noYears are numbers of no years.
func noYears() []int64 {
	return []int64{-1, -2, -400, math.MinInt64, math.MinInt64 + 1, -1 << 32, 100001, 100400, 1 << 32, 1<<32 + 4, 1 << 62, math.MaxInt64 - 1, math.MaxInt64}
}

func TestYearsAndDaysThatThereAreNotFail(t *testing.T) {
	for _, c := range manyCalendars(122, 60) {
		for _, year := range noYears() {
			expect(t, "leap year "+shown(year, c), shown(impl.IsLeap(c, year)), "false")
			expect(t, "days before "+shown(year, c), both(impl.DaysBefore(c, year)), noNumber)
		}
		end, ok := impl.DaysBefore(c, impl.MaxYear)
		last := end - daysOf(c, impl.MaxYear-1)
		expect(t, "the last day "+shown(c), shown(ok)+three(impl.YearOf(c, end-1)), "true"+three(impl.MaxYear-1, end-1-last, true))
		for _, day := range []int64{-1, -2, -365, math.MinInt64, math.MinInt64 + 1, -1 << 32, end, end + 1, end + c.Common, 1 << 32, 1<<32 + 1, math.MaxInt64 - 1, math.MaxInt64} {
			expect(t, "year of "+shown(day, c), three(impl.YearOf(c, day)), noYear)
		}
	}
}

func TestMeanYear(t *testing.T) {
	for want, c := range map[string]impl.Calendar{
		"1 1 true": calendar(1, 1), "2 1 true": calendar(1, 1, 0), "365 1 true": calendar(4, 365), "366 1 true": calendar(4, 365, 0, 1, 2, 3), "1461 4 true": calendar(8, 365, 3, 7), "731 2 true": calendar(4, 365, 1, 2), "1463 4 true": calendar(4, 365, 0, 1, 2),
		"1001 1 true": calendar(400, 1000, upTo(0, 399)...), "1000 1 true": calendar(400, 1000), "400001 400 true": calendar(400, 1000, 17), "400399 400 true": calendar(400, 1000, upTo(0, 398)...), "1827 5 true": calendar(5, 365, 2, 4), "12053 33 true": calendar(33, 365, 3, 7, 11, 15, 19, 23, 27, 31),
	} {
		expect(t, "mean year of "+shown(c), three(impl.MeanYear(c)), want)
	}
	isWhole, isReduced := 0, 0
	for _, c := range manyCalendars(123, 400) {
		num, den, ok := impl.MeanYear(c)
		days := int64(0)
		for year := range c.Cycle {
			days += daysOf(c, year)
		}
		mean := big.NewRat(days, c.Cycle)
		expect(t, "mean year of "+shown(c), three(num, den, ok), three(mean.Num().Int64(), mean.Denom().Int64(), true))
		if den == 1 {
			isWhole++
		} else if den < c.Cycle {
			isReduced++
		}
	}
	expect(t, "mean years that are integers, and others in lower terms", shown(isWhole > 20, isReduced > 20), "true true")
}

// driftBy returns the drift of a calendar as it is defined.
func driftBy(c impl.Calendar, num, den int64) int64 {
	drift, before := int64(0), int64(0)
	for year := int64(0); year <= c.Cycle; year++ {
		n := den*before - year*num
		drift = max(drift, n, -n)
		before += daysOf(c, year)
	}
	return drift
}

func TestDriftOf(t *testing.T) {
	c := calendar(5, 365, 2, 4)
	for _, at := range []struct{ num, den, want int64 }{
		// The days before the years are 0, 365, 730, 1096, 1461 and 1827.
		{1827, 5, 4}, {3654, 10, 8}, {365, 1, 2}, {366, 1, 3}, {364, 1, 7}, {0, 1, 1827}, {0, 1000, 1827000}, {1000000, 1, 4998173}, {1000000, 1000, 3173000}, {731, 2, 2}, {1461, 4, 3}, {1, 1000, 1826995},
	} {
		expect(t, "drift from "+shown(at.num, at.den), both(impl.DriftOf(c, at.num, at.den)), both(at.want, true))
	}
	expect(t, "no drift", both(impl.DriftOf(calendar(7, 365), 365, 1))+both(impl.DriftOf(calendar(7, 365), 3650, 10))+both(impl.DriftOf(calendar(1, 1000, 0), 1001, 1))+both(impl.DriftOf(calendar(3, 7, 0, 1, 2), 8, 1)), "0 true0 true0 true0 true")
	// Only the year behind the cycle is as far away.
	expect(t, "at the year Cycle", both(impl.DriftOf(calendar(4, 365, 3), 365, 1))+both(impl.DriftOf(calendar(1, 365, 0), 365, 1))+both(impl.DriftOf(calendar(4, 365), 366, 1))+both(impl.DriftOf(calendar(1, 1), 0, 1)), "1 true1 true4 true1 true")
	// The year behind the cycle is not away at all.
	expect(t, "within the cycle", both(impl.DriftOf(calendar(4, 365, 3), 1461, 4))+both(impl.DriftOf(calendar(4, 365, 0), 1461, 4)), "3 true3 true")
	expect(t, "limits", both(impl.DriftOf(calendar(400, 1000, upTo(0, 399)...), 0, 1000))+both(impl.DriftOf(calendar(400, 1), 1000000, 1)), "400400000 true399999600 true")
}

func TestDriftOfAllYears(t *testing.T) {
	rule := numbers(124)
	isAbove, isBelow := 0, 0
	for _, c := range manyCalendars(125, 300) {
		mean, den, _ := impl.MeanYear(c)
		for _, at := range [][2]int64{{mean, den}, {mean + 1, den}, {mean - 1, den}, {c.Common, 1}, {c.Common + 1, 1}, {0, 1}, {0, 1000}, {1000000, 1}, {1000000, 1000}, {rule.next(0, 1000000), rule.next(1, 1000)}, {2 * mean, 2 * den}} {
			if at[1] > impl.MaxDen {
				continue
			}
			expect(t, "drift "+shown(c, at), both(impl.DriftOf(c, at[0], at[1])), both(driftBy(c, at[0], at[1]), true))
			switch sign := at[0]*den - mean*at[1]; {
			case sign > 0:
				isAbove++
			case sign < 0:
				isBelow++
			}
		}
	}
	expect(t, "fractions above and below the mean year", shown(isAbove > 200, isBelow > 200), "true true")
}

func TestDriftsFromFractionsBeyondTheLimitsFail(t *testing.T) {
	for _, c := range manyCalendars(126, 20) {
		for _, n := range []int64{-1, -365, math.MinInt64, math.MinInt64 + 1, 1 << 32, 1 << 62, math.MaxInt64 - 1, math.MaxInt64} {
			expect(t, "drift "+shown(c, n), both(impl.DriftOf(c, n, 1))+both(impl.DriftOf(c, 365, n))+both(impl.DriftOf(c, n, n)), noNumber+noNumber+noNumber)
		}
		expect(t, "drift behind the limits "+shown(c), both(impl.DriftOf(c, 1000001, 1))+both(impl.DriftOf(c, 365, 1001))+both(impl.DriftOf(c, 365, 0))+both(impl.DriftOf(c, 0, 0)), noNumber+noNumber+noNumber+noNumber)
	}
}

func TestDaysDoNotDependOnTheCycleThatIsTold(t *testing.T) {
	// A cycle that is told again has the same years.
	for _, c := range manyCalendars(127, 60) {
		if 2*c.Cycle > impl.MaxCycle {
			continue
		}
		again := calendar(2*c.Cycle, c.Common, slices.Clone(c.Leaps)...)
		for _, n := range c.Leaps {
			again.Leaps = append(again.Leaps, n+c.Cycle)
		}
		expect(t, "mean years "+shown(c), three(impl.MeanYear(again)), three(impl.MeanYear(c)))
		for _, year := range []int64{0, 1, c.Cycle - 1, c.Cycle, c.Cycle + 1, 2*c.Cycle - 1, 2 * c.Cycle, 2*c.Cycle + 1, 3 * c.Cycle, 99999, 100000} {
			expect(t, "years "+shown(c, year), shown(impl.IsLeap(again, year))+both(impl.DaysBefore(again, year)), shown(impl.IsLeap(c, year))+both(impl.DaysBefore(c, year)))
			day, _ := impl.DaysBefore(c, year)
			expect(t, "days "+shown(c, day), three(impl.YearOf(again, day)), three(impl.YearOf(c, day)))
		}
	}
}
