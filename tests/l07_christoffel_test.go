package tests

import (
	"math"
	"math/big"
	"slices"
	"strings"
	"testing"

	"loop.example/g01129/impl"
)

// The tests of this file are for promise 8: Christoffel's words, continued fractions and standard words.

func TestExamplesOfChristoffel(t *testing.T) {
	expect(t, "word and cut", both(impl.ChristoffelWord(3, 2))+both(impl.CutOf(3, 2)), `"aabab" true3 true`)
	expect(t, "other words", both(impl.ChristoffelWord(2, 2))+both(impl.ChristoffelWord(0, 1)), noText+`"b" true`)
	expect(t, "continued", both(impl.ContinuedOf(7, 3))+three(impl.FromContinued(row(2, 3)))+three(impl.FromContinued(row(2, 1))), "[2 3] true7 3 true"+noFraction)
	expect(t, "standard", both(impl.StandardWord(row(1, 2))), `"ababa" true`)
}

// noFraction is what FromContinued must return if it fails.
var noFraction = shown(0, 0, false)

// christoffels returns all Christoffel words of at most most of each letter, by their definition, with the numbers of their letters.
func christoffels(most int64) map[string][2]int64 {
	words := map[string][2]int64{}
	for as := range most + 1 {
		for bs := range most + 1 {
			if gcd(as, bs) == 1 {
				words[lineOf(bs, as+bs, 0, as+bs)] = [2]int64{as, bs}
			}
		}
	}
	return words
}

func TestAllChristoffelWords(t *testing.T) {
	all := christoffels(impl.MaxPart)
	count := 0
	for as := range int64(impl.MaxPart + 2) {
		for bs := range int64(impl.MaxPart + 2) {
			word, ok := impl.ChristoffelWord(as, bs)
			if gcd(as, bs) != 1 || as > impl.MaxPart || bs > impl.MaxPart {
				expect(t, "no word of "+shown(as, bs), both(word, ok), noText)
				continue
			}
			count++
			letters, found := all[word]
			expect(t, "word of "+shown(as, bs), shown(ok, found, letters, impl.IsBalanced(word)), shown(true, true, row(as, bs), true))
		}
	}
	expect(t, "words", shown(len(all)), shown(count))
}

func TestChristoffelWordsOfFewLetters(t *testing.T) {
	expect(t, "one kind", both(impl.ChristoffelWord(1, 0))+both(impl.ChristoffelWord(0, 1)), `"a" true"b" true`)
	expect(t, "no kind", both(impl.ChristoffelWord(0, 0))+both(impl.ChristoffelWord(0, 2))+both(impl.ChristoffelWord(2, 0))+both(impl.ChristoffelWord(0, impl.MaxPart))+both(impl.ChristoffelWord(impl.MaxPart, 0)), strings.Repeat(noText, 5))
	expect(t, "one of one", both(impl.ChristoffelWord(1, 1)), `"ab" true`)
	for n := int64(1); n <= impl.MaxPart; n++ {
		expect(t, "one b", both(impl.ChristoffelWord(n, 1))+both(impl.CutOf(n, 1)), both(strings.Repeat("a", int(n))+"b", true)+both(1, true))
		expect(t, "one a", both(impl.ChristoffelWord(1, n))+both(impl.CutOf(1, n)), both("a"+strings.Repeat("b", int(n)), true)+both(n, true))
	}
}

func TestChristoffelWordsOfMaxPart(t *testing.T) {
	const most = impl.MaxPart
	expect(t, "both", both(impl.ChristoffelWord(most, most))+both(impl.CutOf(most, most)), noText+noNumber)
	expect(t, "one less", both(impl.ChristoffelWord(most, most-1)), both("a"+strings.Repeat("ab", most-1), true))
	expect(t, "one less", both(impl.ChristoffelWord(most-1, most)), both(strings.Repeat("ab", most-1)+"b", true))
	expect(t, "cuts", both(impl.CutOf(most, most-1))+both(impl.CutOf(most-1, most)), "117 true2 true")
	expect(t, "seven", both(impl.ChristoffelWord(most, 7)), both(lineOf(7, 67, 0, 67), true))
}

func TestCutsOfChristoffelWords(t *testing.T) {
	all := christoffels(impl.MaxPart)
	for word, letters := range all {
		var cuts []int
		for place := 1; place < len(word); place++ {
			_, isFirst := all[word[:place]]
			_, isSecond := all[word[place:]]
			if isFirst && isSecond {
				cuts = append(cuts, place)
			}
		}
		if letters[0] == 0 || letters[1] == 0 {
			expect(t, "no cut of "+word, shown(cuts)+both(impl.CutOf(letters[0], letters[1])), "[]"+noNumber)
			continue
		}
		if len(cuts) != 1 {
			t.Fatalf("the word %s has the cuts %v", word, cuts)
		}
		expect(t, "cut of "+word, both(impl.CutOf(letters[0], letters[1])), both(cuts[0], true))
	}
}

func TestNumbersWithoutChristoffelWordsFail(t *testing.T) {
	for _, wrong := range [][2]int64{{0, 0}, {2, 2}, {2, 4}, {6, 9}, {60, 60}, {60, 45}, {-1, 1}, {1, -1}, {-1, 0}, {0, -1}, {-3, -2}, {-3, 2}, {3, -2}, {61, 1}, {1, 61}, {61, 60}, {60, 61}, {0, 61}, {61, 0}, {62, 61}, {119, 1}, {1, 119}, {1000000007, 2}} {
		expect(t, "no word of "+shown(wrong), both(impl.ChristoffelWord(wrong[0], wrong[1]))+both(impl.CutOf(wrong[0], wrong[1])), noText+noNumber)
	}
	for _, n := range extremes() {
		for _, m := range extremes() {
			if n < 0 || n > impl.MaxPart {
				expect(t, "no word of "+shown(n, m), both(impl.ChristoffelWord(n, m))+both(impl.ChristoffelWord(m, n))+both(impl.CutOf(n, m))+both(impl.CutOf(m, n)), noText+noText+noNumber+noNumber)
			}
		}
	}
	for _, n := range extremes() {
		expect(t, "no cut with 0", both(impl.CutOf(n, 0))+both(impl.CutOf(0, n)), noNumber+noNumber)
	}
}

// evaluated returns the fraction with a continued fraction, from its end.
func evaluated(list []int64) *big.Rat {
	x := new(big.Rat)
	for i := len(list) - 1; i >= 0; i-- {
		if x.Sign() != 0 {
			x.Inv(x)
		}
		x.Add(x, new(big.Rat).SetInt64(list[i]))
	}
	return x
}

// isInForm reports whether a list has the form of a continued fraction, of any length.
func isInForm(list []int64) bool {
	if len(list) == 0 || list[0] < 0 || slices.ContainsFunc(list[1:], func(n int64) bool { return n < 1 }) {
		return false
	}
	return len(list) == 1 || list[len(list)-1] != 1
}

// checkContinued checks the continued fraction of a / b, which is the only one in its form.
func checkContinued(t *testing.T, a, b int64) []int64 {
	t.Helper()
	list, ok := impl.ContinuedOf(a, b)
	what := "continued fraction of " + shown(a, b)
	if !ok || !isInForm(list) {
		t.Fatalf("%s: %v, %v", what, list, ok)
	}
	x := evaluated(list)
	expect(t, what, x.RatString(), big.NewRat(a, b).RatString())
	if len(list) <= impl.MaxTerms {
		expect(t, "back from the "+what, three(impl.FromContinued(list)), shown(x.Num(), x.Denom(), true))
	} else {
		expect(t, "back from the "+what, three(impl.FromContinued(list)), noFraction)
	}
	return list
}

func TestContinuedFractionsOfSmallNumbers(t *testing.T) {
	for a := range int64(90) {
		for b := int64(1); b < 90; b++ {
			checkContinued(t, a, b)
		}
	}
}

func TestContinuedFractionsOfAnyNumbers(t *testing.T) {
	rule := numbers(36)
	long := 0
	for range 5000 {
		if list := checkContinued(t, rule.next(0, impl.MaxValue), rule.next(1, impl.MaxValue)); len(list) > impl.MaxTerms {
			long++
		}
		checkContinued(t, rule.next(0, 1000), rule.next(1, impl.MaxValue))
		checkContinued(t, rule.next(0, impl.MaxValue), rule.next(1, 1000))
	}
	if long < 100 {
		t.Errorf("only %d lists have more than MaxTerms numbers", long)
	}
}

func TestContinuedFractionsAtTheLimits(t *testing.T) {
	const most = impl.MaxValue
	expect(t, "0", both(impl.ContinuedOf(0, 1))+both(impl.ContinuedOf(0, 7))+both(impl.ContinuedOf(0, most)), "[0] true[0] true[0] true")
	expect(t, "less than 1", both(impl.ContinuedOf(2, 5))+both(impl.ContinuedOf(5, 10)), "[0 2 2] true[0 2] true")
	expect(t, "1", both(impl.ContinuedOf(1, 1))+both(impl.ContinuedOf(8, 8))+both(impl.ContinuedOf(most, most)), "[1] true[1] true[1] true")
	expect(t, "MaxValue over 1", both(impl.ContinuedOf(most, 1))+both(impl.ContinuedOf(most-1, 1)), "[1000000000] true[999999999] true")
	expect(t, "1 over MaxValue", both(impl.ContinuedOf(1, most))+both(impl.ContinuedOf(1, most-1)), "[0 1000000000] true[0 999999999] true")
	expect(t, "near 1", both(impl.ContinuedOf(most, most-1))+both(impl.ContinuedOf(most-1, most)), "[1 999999999] true[0 1 999999999] true")
	expect(t, "longest", both(impl.ContinuedOf(fibonacci(44), fibonacci(43)))+both(impl.ContinuedOf(fibonacci(43), fibonacci(44))), both(append(repeated(1, 41), 2), true)+both(append(row(0), append(repeated(1, 41), 2)...), true))
	expect(t, "MaxTerms", both(impl.ContinuedOf(fibonacci(22), fibonacci(21))), both(append(repeated(1, 19), 2), true))
	for _, n := range extremes() {
		for _, m := range extremes() {
			if n < 0 || n > most || m < 1 || m > most {
				expect(t, "no fraction "+shown(n, m), both(impl.ContinuedOf(n, m)), noList)
			} else {
				checkContinued(t, n, m)
			}
		}
	}
	expect(t, "beyond", both(impl.ContinuedOf(most+1, 1))+both(impl.ContinuedOf(1, most+1))+both(impl.ContinuedOf(-1, 1))+both(impl.ContinuedOf(1, 0))+both(impl.ContinuedOf(0, 0))+both(impl.ContinuedOf(1, -1)), strings.Repeat(noList, 6))
}

// checkFromContinued checks the fraction of a list of any numbers.
func checkFromContinued(t *testing.T, list []int64) bool {
	t.Helper()
	want := noFraction
	if isInForm(list) && len(list) <= impl.MaxTerms {
		// A list that has a number beyond MaxValue has such a fraction.
		if x, most := evaluated(list), big.NewInt(impl.MaxValue); x.Num().Cmp(most) <= 0 && x.Denom().Cmp(most) <= 0 {
			want = shown(x.Num(), x.Denom(), true)
		}
	}
	expect(t, "fraction of "+shown(list), three(impl.FromContinued(list)), want)
	return want != noFraction
}

func TestFractionsOfShortLists(t *testing.T) {
	for count := range 6 {
		for _, list := range allLists(count, 4) {
			checkFromContinued(t, list)
		}
	}
	for n := int64(-1); n <= 3; n++ {
		for m := int64(-1); m <= 3; m++ {
			for k := int64(-1); k <= 3; k++ {
				checkFromContinued(t, row(n, m, k))
			}
		}
	}
}

func TestFractionsOfAnyLists(t *testing.T) {
	rule := numbers(37)
	reached := [2]int{}
	for range 6000 {
		list := row(rule.next(0, 3))
		for range rule.next(0, impl.MaxTerms) {
			list = append(list, rule.next(1, rule.next(1, 20)))
		}
		if checkFromContinued(t, list) {
			reached[0]++
		} else if isInForm(list) {
			reached[1]++
		}
	}
	if reached[0] < 1000 || reached[1] < 500 {
		t.Errorf("only %d lists succeed, and %d are too great or too long", reached[0], reached[1])
	}
}

func TestFractionsAtTheLimits(t *testing.T) {
	const most = int64(impl.MaxValue)
	for _, good := range [][]int64{
		{0}, {1}, {most}, {0, most}, {most - 1, most}, {0, 2}, {0, 1, 2}, {1, most - 1}, {0, 1, most - 1}, {most - 1, 2}, {499999999, 2}, {most/2 - 1, 2}, {0, most/2 - 1, 2}, {0, 2, most / 2}, {2, most/2 - 1}, {31622, 31622}, {0, 31622, 31622}, {1, 1, most/2 - 1},
		append(repeated(1, 19), 2), append(append(row(0), repeated(1, 18)...), 2), append(row(100000), repeated(2, 9)...), append(repeated(0, 1), repeated(2, 19)...), repeated(2, 20),
	} {
		checkFromContinued(t, good)
	}
	expect(t, "MaxValue", three(impl.FromContinued(row(most)))+three(impl.FromContinued(row(0, most)))+three(impl.FromContinued(row(1, most-1)))+three(impl.FromContinued(row(0, 1, most-1))), "1000000000 1 true1 1000000000 true1000000000 999999999 true999999999 1000000000 true")
	expect(t, "just beyond", three(impl.FromContinued(row(1, most)))+three(impl.FromContinued(row(0, 1, most)))+three(impl.FromContinued(row(most+1)))+three(impl.FromContinued(row(0, most+1))), strings.Repeat(noFraction, 4))
	// 1000000000 = 1 + 499999999 + 500000000 = 1 + 333333333 * 3.
	expect(t, "MaxValue by a product", three(impl.FromContinued(row(333333333, 3)))+three(impl.FromContinued(row(0, 333333333, 3))), "1000000000 3 true3 1000000000 true")
	expect(t, "just beyond by a product", three(impl.FromContinued(row(500000000, 2)))+three(impl.FromContinued(row(0, 500000000, 2)))+three(impl.FromContinued(row(249999999, 4)))+three(impl.FromContinued(row(250000000, 4))), noFraction+noFraction+"999999997 4 true"+noFraction)
	expect(t, "1 alone", three(impl.FromContinued(row(1)))+three(impl.FromContinued(row(0)))+three(impl.FromContinued(row(0, 1)))+three(impl.FromContinued(row(1, 1))), "1 1 true0 1 true"+noFraction+noFraction)
	expect(t, "MaxTerms", three(impl.FromContinued(append(repeated(1, 19), 2)))+three(impl.FromContinued(append(repeated(1, 20), 2))), shown(fibonacci(22), fibonacci(21), true)+noFraction)
	expect(t, "first 0", three(impl.FromContinued(append(append(row(0), repeated(1, 18)...), 2))), shown(fibonacci(20), fibonacci(21), true))
}

func TestListsThatAreNoContinuedFractionsFail(t *testing.T) {
	const most = int64(impl.MaxValue)
	for _, list := range [][]int64{
		nil, {}, {-1}, {math.MinInt64}, {most + 1}, {math.MaxInt64}, {2, 1}, {0, 1}, {1, 1}, {0, 0}, {2, 0}, {2, 0, 2}, {2, -1}, {2, -1, 2}, {-1, 2}, {2, 2, 1}, {0, 2, 1}, {2, 0, 1}, {2, most + 1}, {2, math.MaxInt64}, {2, math.MinInt64}, {math.MaxInt64, 2}, {math.MinInt64, 2},
		{0, most, most}, {most, most}, {most, 2}, {1, most, 2}, {0, most, 2}, {1, 1, most}, {0, 2, most},
		repeated(most, 2), repeated(most, 3), repeated(most, 20), repeated(2, 21), repeated(1, 20), repeated(0, 20), repeated(3, 3000), append(row(0), repeated(most, 19)...), repeated(math.MaxInt64, 20), repeated(math.MinInt64, 20), append(row(1, 2, 3), repeated(1<<62, 4)...), repeated(1<<32, 3), repeated(3037000500, 2),
		append(repeated(4294967296, 2), 2),
	} {
		expect(t, "no fraction "+shown(list), three(impl.FromContinued(list)), noFraction)
	}
}

// standardOf returns the standard word of a list by its definition, as far as it has at most limit letters.
func standardOf(list []int64, limit int) (string, bool) {
	words := []string{"b", "a"}
	for i, n := range list {
		last := words[i]
		for range n {
			// The word before stands behind, so that the last one is put in front of it.
			last = words[i+1] + last
			if len(last) > limit {
				return "", false
			}
		}
		words = append(words, last)
	}
	return words[len(words)-1], true
}

// checkStandard checks the standard word of a list of the right form.
func checkStandard(t *testing.T, list []int64) int {
	t.Helper()
	want, ok := standardOf(list, impl.MaxLetters)
	got, gotOK := impl.StandardWord(list)
	expect(t, "standard word of "+shown(list), both(got, gotOK), both(want, ok))
	expect(t, "balance of it", shown(impl.IsBalanced(want)), "true")
	return len(want)
}

func TestStandardWordsOfShortLists(t *testing.T) {
	checkStandard(t, nil)
	for count := 1; count <= 5; count++ {
		for _, list := range allLists(count, 3) {
			if !slices.Contains(list[1:], 0) {
				checkStandard(t, list)
			}
		}
	}
	for n := range int64(impl.MaxLetters + 1) {
		checkStandard(t, row(n))
		for m := range int64(impl.MaxLetters) {
			checkStandard(t, row(n, m+1))
			checkStandard(t, row(0, n+1, m+1))
			checkStandard(t, row(1, n+1, m+1))
		}
	}
}

func TestStandardWordsOfAnyLists(t *testing.T) {
	rule := numbers(38)
	lengths := map[int]int{}
	for range 20000 {
		list := row(rule.next(0, 4))
		for range rule.next(0, 9) {
			list = append(list, rule.next(1, rule.next(1, 6)))
		}
		lengths[checkStandard(t, list)]++
	}
	expect(t, "too long, just as long as possible", shown(lengths[0] > 100, lengths[impl.MaxLetters] > 0, lengths[impl.MaxLetters-1] > 0), "true true true")
}

func TestStandardWordsAtTheLimits(t *testing.T) {
	expect(t, "empty list", both(impl.StandardWord(nil))+both(impl.StandardWord(row())), `"a" true"a" true`)
	expect(t, "first 0", both(impl.StandardWord(row(0)))+both(impl.StandardWord(row(0, 1)))+both(impl.StandardWord(row(0, 2)))+both(impl.StandardWord(row(0, 1, 1))), `"b" true"ba" true"bba" true"bab" true`)
	expect(t, "last 1", both(impl.StandardWord(row(1)))+both(impl.StandardWord(row(1, 1)))+both(impl.StandardWord(row(1, 1, 1))), `"ab" true"aba" true"abaab" true`)
	expect(t, "MaxLetters", both(impl.StandardWord(row(119)))+both(impl.StandardWord(row(0, 119))), both(strings.Repeat("a", 119)+"b", true)+both(strings.Repeat("b", 119)+"a", true))
	expect(t, "one more", both(impl.StandardWord(row(120)))+both(impl.StandardWord(row(0, 120))), noText+noText)
	expect(t, "one less", both(impl.StandardWord(row(1, 59)))+both(impl.StandardWord(row(1, 60))), both(strings.Repeat("ab", 59)+"a", true)+noText)
	expect(t, "MaxLetters of three", both(impl.StandardWord(row(0, 16, 7))), both(strings.Repeat(strings.Repeat("b", 16)+"a", 7)+"b", true))
	expect(t, "one more of three", both(impl.StandardWord(row(0, 14, 8))), noText)
	expect(t, "longest of 1", both(impl.StandardWord(repeated(1, 9))), both(standardOf(repeated(1, 9), 89)))
	expect(t, "too many of 1", both(impl.StandardWord(repeated(1, 10)))+both(impl.StandardWord(repeated(1, impl.MaxTerms)))+both(impl.StandardWord(repeated(1, impl.MaxTerms+1))), noText+noText+noText)
	expect(t, "of 0 and 1", both(impl.StandardWord(append(row(0), repeated(1, 10)...)))+both(impl.StandardWord(append(row(0), repeated(1, 11)...))), both(standardOf(append(row(0), repeated(1, 10)...), impl.MaxLetters))+noText)
}

func TestListsWithoutStandardWordsFail(t *testing.T) {
	for _, list := range [][]int64{
		{-1}, {-1, 1}, {math.MinInt64}, {math.MaxInt64}, {121}, {120}, {1, 0}, {0, 0}, {1, 0, 1}, {0, 0, 0}, {1, -1}, {1, 121}, {0, 121}, {0, 120}, {120, 120}, {1, math.MaxInt64}, {1, math.MinInt64}, {0, 1 << 32}, {1 << 32}, {0, 1<<32 + 1}, {1<<32 + 1}, {1 << 62, 4}, {2, 2, 0}, {119, 1, 1}, {119, 2}, {2, 3, -1},
		repeated(0, 20), repeated(0, 21), repeated(1, 21), repeated(120, 20), repeated(1, 3000), repeated(math.MaxInt64, 20), repeated(math.MinInt64, 20),
	} {
		expect(t, "no word of "+shown(list), both(impl.StandardWord(list)), noText)
	}
}
