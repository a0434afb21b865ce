package tests

import (
	"math"
	"math/big"
	"strings"
	"testing"

	"loop.example/g01129/impl"
)

// The tests of this file are for promise 8: lines and slopes.

// slopes shows what SlopesOf returns.
func slopes(lowNum, lowDen, highNum, highDen int64, ok bool) string {
	return shown(lowNum, lowDen, highNum, highDen, ok)
}

// line shows what LineFor returns.
func line(a, den, shift int64, ok bool) string { return shown(a, den, shift, ok) }

// noSlopes and noLine are what a call that fails must return.
var (
	noSlopes = shown(0, 0, 0, 0, false)
	noLine   = shown(0, 0, 0, false)
)

func TestExamplesOfLines(t *testing.T) {
	expect(t, "word", both(impl.LineWord(2, 5, 0, 5)), `"aabab" true`)
	expect(t, "slopes", slopes(impl.SlopesOf("aabab"))+slopes(impl.SlopesOf("aabb")), "1 3 1 2 true"+noSlopes)
	expect(t, "line", line(impl.LineFor("aabab"))+line(impl.LineFor("aabb")), "2 5 0 true"+noLine)
	expect(t, "too steep", both(impl.LineWord(6, 5, 0, 5)), noText)
}

// lineOf returns the word of a line by its definition; none of the numbers is less than 0.
func lineOf(a, den, shift, count int64) string {
	word := make([]byte, count)
	for i := range count {
		word[i] = 'a'
		if ((i+1)*a+shift)/den > (i*a+shift)/den {
			word[i] = 'b'
		}
	}
	return string(word)
}

func TestLinesOfSmallDenominators(t *testing.T) {
	for den := int64(1); den <= 12; den++ {
		for a := range den + 1 {
			for shift := range den {
				for count := range int64(30) {
					expect(t, "word "+shown(a, den, shift, count), both(impl.LineWord(a, den, shift, count)), both(lineOf(a, den, shift, count), true))
				}
			}
		}
	}
}

func TestLinesOfAnyDenominators(t *testing.T) {
	rule := numbers(31)
	for range 2000 {
		den := rule.next(1, impl.MaxDen)
		a, shift, count := rule.next(0, den), rule.next(0, den-1), rule.next(0, impl.MaxLetters)
		word, ok := impl.LineWord(a, den, shift, count)
		expect(t, "word "+shown(a, den, shift, count), both(word, ok), both(lineOf(a, den, shift, count), true))
		expect(t, "word and balance", shown(impl.IsWord(word), impl.IsBalanced(word)), "true true")
	}
}

func TestLinesOfLimits(t *testing.T) {
	for _, den := range []int64{1, 2, 3, impl.MaxDen - 1, impl.MaxDen} {
		for _, a := range []int64{0, 1, den / 2, den - 1, den} {
			for _, shift := range []int64{0, (den - 1) / 2, den - 1} {
				for _, count := range []int64{0, 1, 2, impl.MaxLetters - 1, impl.MaxLetters} {
					expect(t, "word "+shown(a, den, shift, count), both(impl.LineWord(a, den, shift, count)), both(lineOf(a, den, shift, count), true))
				}
			}
		}
		for _, count := range []int64{0, 1, 7, impl.MaxLetters} {
			for _, shift := range []int64{0, den - 1} {
				expect(t, "slope 0", both(impl.LineWord(0, den, shift, count)), both(strings.Repeat("a", int(count)), true))
				expect(t, "slope 1", both(impl.LineWord(den, den, shift, count)), both(strings.Repeat("b", int(count)), true))
			}
		}
	}
	expect(t, "late", both(impl.LineWord(1, impl.MaxDen, impl.MaxDen-impl.MaxLetters, impl.MaxLetters)), both(strings.Repeat("a", 119)+"b", true))
	expect(t, "too late", both(impl.LineWord(1, impl.MaxDen, impl.MaxDen-impl.MaxLetters-1, impl.MaxLetters)), both(strings.Repeat("a", 120), true))
	expect(t, "at once", both(impl.LineWord(1, impl.MaxDen, impl.MaxDen-1, 3))+both(impl.LineWord(impl.MaxDen-1, impl.MaxDen, 0, 3)), `"baa" true"abb" true`)
}

func TestLinesThatAreNotInLowestTerms(t *testing.T) {
	expect(t, "4/10", both(impl.LineWord(4, 10, 0, 5))+both(impl.LineWord(4, 10, 1, 5))+both(impl.LineWord(400, 1000, 0, 5)), `"aabab" true"aabab" true"aabab" true`)
	for times := int64(2); times <= 4; times++ {
		for den := int64(1); den <= 7; den++ {
			for a := range den + 1 {
				for shift := range den * times {
					expect(t, "word "+shown(a*times, den*times, shift), both(impl.LineWord(a*times, den*times, shift, 25)), both(lineOf(a, den, shift/times, 25), true))
				}
			}
		}
	}
}

func TestLinesBeyondTheLimitsFail(t *testing.T) {
	for _, wrong := range [][4]int64{
		{6, 5, 0, 5}, {-1, 5, 0, 5}, {2, 5, 5, 5}, {2, 5, -1, 5}, {2, 5, 6, 5}, {2, 5, 0, -1}, {2, 5, 0, impl.MaxLetters + 1}, {0, 0, 0, 0}, {0, 0, 0, 5}, {1, 0, 0, 5}, {0, -1, 0, 5}, {-1, -1, 0, 5}, {0, -1, -2, 5},
		{0, impl.MaxDen + 1, 0, 5}, {1, impl.MaxDen + 1, 0, 0}, {impl.MaxDen + 1, impl.MaxDen, 0, 5}, {1, impl.MaxDen, impl.MaxDen, 5}, {1, 1, 1, 1}, {2, 1, 0, 1}, {0, 1, 1, 0}, {2, 1, 0, 0}, {2, 5, 0, math.MaxInt64}, {2, 5, 0, math.MinInt64},
	} {
		expect(t, "no line "+shown(wrong), both(impl.LineWord(wrong[0], wrong[1], wrong[2], wrong[3])), noText)
	}
	for _, n := range extremes() {
		for _, m := range extremes() {
			if n < 0 || n > 5 {
				expect(t, "a", both(impl.LineWord(n, 5, 0, m)), noText)
			}
			if n < 0 || n > 4 {
				expect(t, "shift", both(impl.LineWord(2, 5, n, m)), noText)
			}
			if n < 0 || n > impl.MaxLetters {
				expect(t, "count", both(impl.LineWord(m, 5, 0, n))+both(impl.LineWord(2, m, 0, n)), noText+noText)
			}
			if n < 1 || n > impl.MaxDen {
				expect(t, "den", both(impl.LineWord(m, n, 0, 5))+both(impl.LineWord(0, n, m, 5))+both(impl.LineWord(n, n, n, m)), noText+noText+noText)
			}
		}
	}
}

// isPossible reports whether a slope is possible, by the definition of it.
func isPossible(word string, num, den int64) bool {
	for j := range len(word) + 1 {
		for i := range j {
			rise, run := int64(strings.Count(word[i:j], "b")), int64(j-i)
			if num*run <= (rise-1)*den || num*run >= (rise+1)*den {
				return false
			}
		}
	}
	return true
}

// endsByPairs returns the greatest lower and the least upper limit of all pairs.
func endsByPairs(word string) (*big.Rat, *big.Rat) {
	var low, high *big.Rat
	for j := range len(word) + 1 {
		for i := range j {
			rise, run := int64(strings.Count(word[i:j], "b")), int64(j-i)
			if least := big.NewRat(rise-1, run); low == nil || least.Cmp(low) > 0 {
				low = least
			}
			if most := big.NewRat(rise+1, run); high == nil || most.Cmp(high) < 0 {
				high = most
			}
		}
	}
	return low, high
}

// checkSlopes checks the slopes of a word with letters against its pairs.
func checkSlopes(t *testing.T, word string) {
	t.Helper()
	low, high := endsByPairs(word)
	got := slopes(impl.SlopesOf(word))
	if low.Cmp(high) >= 0 {
		expect(t, "slopes of "+word, got, noSlopes)
		return
	}
	// Rationals of math/big are in lowest terms, with a denominator of at least 1.
	expect(t, "slopes of "+word, got, shown(low.Num(), low.Denom(), high.Num(), high.Denom(), true))
}

func TestSlopesOfAllShortWords(t *testing.T) {
	for count := 1; count <= 11; count++ {
		for _, word := range wordsOf(count) {
			checkSlopes(t, word)
			_, _, _, _, ok := impl.SlopesOf(word)
			expect(t, "balanced "+word, shown(impl.IsBalanced(word)), shown(ok))
		}
	}
}

func TestSlopesThatArePossible(t *testing.T) {
	for count := 1; count <= 8; count++ {
		for _, word := range wordsOf(count) {
			lowNum, lowDen, highNum, highDen, ok := impl.SlopesOf(word)
			for den := int64(1); den <= 2*int64(count); den++ {
				for num := -2 * den; num <= 3*den; num++ {
					want := ok && lowNum*den < num*lowDen && num*highDen < highNum*den
					expect(t, word+" with the slope "+shown(num, den), shown(isPossible(word, num, den)), shown(want))
				}
			}
		}
	}
}

func TestEndsOfSlopesAreNotPossibleThemselves(t *testing.T) {
	rule := numbers(32)
	for range 200 {
		den := rule.next(1, impl.MaxDen)
		word := lineOf(rule.next(0, den), den, rule.next(0, den-1), rule.next(1, impl.MaxLetters))
		lowNum, lowDen, highNum, highDen, ok := impl.SlopesOf(word)
		isMiddle := isPossible(word, lowNum+highNum, lowDen+highDen)
		expect(t, "slopes of "+word, shown(ok, isPossible(word, lowNum, lowDen), isPossible(word, highNum, highDen), isMiddle), "true false false true")
		// What lies just inside of the ends is possible.
		const near = 1000000
		isNearLow, isNearHigh := isPossible(word, lowNum*near+highNum, lowDen*near+highDen), isPossible(word, lowNum+highNum*near, lowDen+highDen*near)
		expect(t, "near the ends of "+word, shown(isNearLow, isNearHigh), "true true")
	}
}

func TestSlopesOfLongWords(t *testing.T) {
	for _, word := range longWords() {
		checkSlopes(t, word)
		checkSlopes(t, exchanged(word, 0))
		checkSlopes(t, exchanged(word, 60))
		checkSlopes(t, exchanged(word, len(word)-1))
	}
	rule := numbers(33)
	for range 100 {
		den := rule.next(1, impl.MaxDen)
		checkSlopes(t, lineOf(rule.next(0, den), den, rule.next(0, den-1), rule.next(1, impl.MaxLetters)))
	}
}

func TestEndsOfSlopes(t *testing.T) {
	for word, want := range map[string]string{
		"a": "-1 1 1 1 true", "b": "0 1 2 1 true", "aa": "-1 2 1 2 true", "bb": "1 2 3 2 true", "ab": "0 1 1 1 true", "ba": "0 1 1 1 true", "aaa": "-1 3 1 3 true", "bbb": "2 3 4 3 true",
		"aab": "0 1 1 2 true", "aba": "0 1 2 3 true", "bab": "1 3 1 1 true", "abb": "1 2 1 1 true", "abab": "1 3 2 3 true", "aaba": "0 1 1 2 true", "bbab": "1 2 1 1 true", "abaab": "1 4 1 2 true", "ababa": "1 3 3 5 true", "babab": "2 5 2 3 true",
		"baab": "1 4 1 2 true", "abba": "1 2 3 4 true", "aabaa": "0 1 2 5 true",
		strings.Repeat("a", 120): "-1 120 1 120 true", strings.Repeat("b", 120): "119 120 121 120 true", strings.Repeat("a", 119) + "b": "0 1 1 119 true", "a" + strings.Repeat("b", 119): "118 119 1 1 true",
		strings.Repeat("ab", 60): "59 119 60 119 true", strings.Repeat("ba", 60): "59 119 60 119 true", "": noSlopes, "aabb": noSlopes, "bbaa": noSlopes, "aaabab": noSlopes,
	} {
		expect(t, "slopes of "+word, slopes(impl.SlopesOf(word)), want)
	}
}

// leastLines returns for each word with a number of letters that a line has the least line of it, looked for among all of some denominators, in order.
func leastLines(count, most int64) map[string]string {
	found := map[string]string{}
	for den := int64(1); den <= most; den++ {
		for a := range den + 1 {
			for shift := range den {
				word := lineOf(a, den, shift, count)
				if _, ok := found[word]; !ok {
					found[word] = line(a, den, shift, true)
				}
			}
		}
	}
	return found
}

func TestLinesForAllShortWords(t *testing.T) {
	for count := range 13 {
		found := leastLines(int64(count), 24)
		expect(t, "words of "+shown(count), both(impl.CountBalanced(int64(count))), both(len(found), true))
		for _, word := range wordsOf(count) {
			want, ok := found[word]
			if !ok {
				want = noLine
			}
			expect(t, "line for "+word, line(impl.LineFor(word)), want)
			expect(t, "balanced "+word, shown(impl.IsBalanced(word)), shown(ok))
		}
	}
}

func TestLinesForWordsOfMaxLetters(t *testing.T) {
	found := leastLines(impl.MaxLetters, impl.MaxLetters)
	expect(t, "words", shown(len(found)), shown(countByDenominators(impl.MaxLetters)))
	rule := numbers(34)
	for word, want := range found {
		if rule.next(1, 60) == 1 {
			expect(t, "line for "+word, line(impl.LineFor(word)), want)
		}
	}
	for range 1000 {
		den := rule.next(impl.MaxLetters, impl.MaxDen)
		word := lineOf(rule.next(0, den), den, rule.next(0, den-1), impl.MaxLetters)
		expect(t, "line for "+word, line(impl.LineFor(word)), found[word])
		other := exchanged(word, int(rule.next(0, impl.MaxLetters-1)))
		want, ok := found[other]
		if !ok {
			want = noLine
		}
		expect(t, "line for "+other, line(impl.LineFor(other)), want)
	}
}

func TestLinesForWordsOfAnyLength(t *testing.T) {
	rule := numbers(35)
	for range 3000 {
		den := rule.next(1, impl.MaxDen)
		word := lineOf(rule.next(0, den), den, rule.next(0, den-1), rule.next(0, impl.MaxLetters))
		a, least, shift, ok := impl.LineFor(word)
		expect(t, "line for "+word, shown(ok, least <= den), "true true")
		expect(t, "word "+shown(a, least, shift), both(impl.LineWord(a, least, shift, int64(len(word)))), both(word, true))
		if shift > 0 {
			expect(t, "shift less by 1", shown(lineOf(a, least, shift-1, int64(len(word))) != word), "true")
		}
	}
}

func TestLinesForWords(t *testing.T) {
	for word, want := range map[string]string{
		"": "0 1 0 true", "a": "0 1 0 true", "b": "1 1 0 true", "aa": "0 1 0 true", "bb": "1 1 0 true", "ab": "1 2 0 true", "ba": "1 2 1 true", "aab": "1 3 0 true", "aba": "1 2 0 true", "baa": "1 3 2 true", "abb": "2 3 0 true", "bab": "1 2 1 true", "bba": "2 3 2 true",
		"abab": "1 2 0 true", "baab": "1 3 2 true", "abba": "2 3 0 true", "aabaa": "1 3 0 true", "babab": "1 2 1 true",
		strings.Repeat("a", 120): "0 1 0 true", strings.Repeat("b", 120): "1 1 0 true", strings.Repeat("a", 119) + "b": "1 120 0 true", "b" + strings.Repeat("a", 119): "1 120 119 true", "a" + strings.Repeat("b", 119): "119 120 0 true", strings.Repeat("ab", 60): "1 2 0 true", strings.Repeat("ba", 60): "1 2 1 true",
		"abbaa": noLine, "aabb": noLine, "bbaa": noLine, "aaabab": noLine, "bbbaa": noLine,
	} {
		expect(t, "line for "+word, line(impl.LineFor(word)), want)
	}
}
