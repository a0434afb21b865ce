package tests

import (
	"math/bits"
	"strings"
	"testing"

	"loop.example/g01129/impl"
)

// The tests of this file are for promise 8: words, heights, balance and periods.

func TestExamplesOfBalance(t *testing.T) {
	expect(t, "balanced", shown(impl.IsBalanced("aabab"), impl.IsBalanced("aabb")), "true false")
	expect(t, "heights", both(impl.HeightsOf("aabab")), "[0 0 0 1 1 2] true")
	expect(t, "periods", both(impl.PeriodOf("abab"))+both(impl.PeriodOf("")), "2 true1 true")
	expect(t, "four letters", both(impl.CountBalanced(4)), "14 true")
}

// wordsOf returns all words with a number of letters, in ascending order.
func wordsOf(count int) []string {
	words := []string{""}
	for range count {
		var longer []string
		for _, word := range words {
			longer = append(longer, word+"a", word+"b")
		}
		words = longer
	}
	return words
}

// anyWord returns a word with a number of letters, of which about one of many is the other one.
func (n *numbers) anyWord(count, many int64) string {
	word := ""
	for range count {
		if n.next(1, many) == 1 {
			word += "b"
		} else {
			word += "a"
		}
	}
	return word
}

// exchanged returns a word with the letter at a place exchanged for the other one.
func exchanged(word string, place int) string {
	other := "a"
	if word[place] == 'a' {
		other = "b"
	}
	return word[:place] + other + word[place+1:]
}

// apart returns for each size of parts how many pairs of parts differ by more than by.
func apart(word string, by int) []int {
	pairs := make([]int, len(word)+1)
	for size := range pairs {
		for i := range len(word) - size + 1 {
			for k := range i {
				first, second := strings.Count(word[k:k+size], "b"), strings.Count(word[i:i+size], "b")
				if first-second > by || second-first > by {
					pairs[size]++
				}
			}
		}
	}
	return pairs
}

// sumOfInts returns the sum of a list.
func sumOfInts(list []int) int {
	sum := 0
	for _, n := range list {
		sum += n
	}
	return sum
}

// isEven reports whether no two parts of a word that are as long differ by more than 1.
func isEven(word string) bool { return sumOfInts(apart(word, 1)) == 0 }

// noWords are texts that are not words.
func noWords() []string {
	ab := strings.Repeat("ab", impl.MaxLetters/2)
	texts := []string{
		"A", "c", "B", "-", "0", " ", "\n", "\x00", "\xff", "\x61\x80", "é", "а", "ab c", " ab", "ab ", "ab\n", "aBab", "abcab", "cab", "abc", "a,b", "ab\x00", "\x00ab", "a\xffb", "aab;", "`", "a`", "ба", "á",
		ab + "a", ab + "b", ab + ab, ab[:119] + "c", "c" + ab[1:], ab[:60] + "-" + ab[61:], ab + "c", ab + "\x00",
		strings.Repeat("a", impl.MaxLetters+1), strings.Repeat("b", impl.MaxLetters+1), strings.Repeat("a", 256), strings.Repeat("b", 376), strings.Repeat("ab", 50000), strings.Repeat("é", 60),
	}
	return texts
}

// longWords are words of MaxLetters letters and of one less, of all kinds.
func longWords() []string {
	var words []string
	for _, count := range []int{impl.MaxLetters - 1, impl.MaxLetters} {
		for _, part := range []string{"a", "b", "ab", "aab", "abb", "aabab", "aabb", "abaab", "aaabab", strings.Repeat("a", 59) + "b", strings.Repeat("b", 60) + "a", strings.Repeat("a", 118) + "b", "a" + strings.Repeat("b", 119)} {
			words = append(words, strings.Repeat(part, impl.MaxLetters)[:count])
		}
	}
	return words
}

func TestWords(t *testing.T) {
	for count := range 9 {
		for _, word := range wordsOf(count) {
			expect(t, "word "+word, shown(impl.IsWord(word)), "true")
		}
	}
	for _, word := range longWords() {
		expect(t, "word "+word, shown(impl.IsWord(word)), "true")
	}
	for b := range 256 {
		letter := string([]byte{byte(b)})
		want := shown(b == 'a' || b == 'b')
		expect(t, "letter "+letter, shown(impl.IsWord(letter))+shown(impl.IsWord("a"+letter+"b"))+shown(impl.IsWord("ab"+letter)), want+want+want)
	}
	for count := range 300 {
		expect(t, "letters", shown(impl.IsWord(strings.Repeat("a", count)), impl.IsWord(strings.Repeat("b", count))), shown(count <= impl.MaxLetters, count <= impl.MaxLetters))
	}
}

func TestTextsThatAreNoWordsFail(t *testing.T) {
	for _, s := range noWords() {
		expect(t, "no word "+s, shown(impl.IsWord(s), impl.IsBalanced(s))+both(impl.HeightsOf(s))+both(impl.PeriodOf(s)), "false false"+noList+noNumber)
		expect(t, "no line "+s, slopes(impl.SlopesOf(s))+line(impl.LineFor(s)), noSlopes+noLine)
	}
}

// checkHeights checks each of the heights of a word for itself.
func checkHeights(t *testing.T, word string) {
	t.Helper()
	var want []int64
	for i := range len(word) + 1 {
		want = append(want, int64(strings.Count(word[:i], "b")))
	}
	expect(t, "heights "+word, both(impl.HeightsOf(word)), both(want, true))
}

func TestHeights(t *testing.T) {
	expect(t, "no letters", both(impl.HeightsOf("")), "[0] true")
	expect(t, "one letter", both(impl.HeightsOf("a"))+both(impl.HeightsOf("b")), "[0 0] true[0 1] true")
	expect(t, "one kind", both(impl.HeightsOf("aaa"))+both(impl.HeightsOf("bbb")), "[0 0 0 0] true[0 1 2 3] true")
	expect(t, "MaxLetters", both(impl.HeightsOf(strings.Repeat("b", impl.MaxLetters))), both(upTo(0, impl.MaxLetters), true))
	for count := range 9 {
		for _, word := range wordsOf(count) {
			checkHeights(t, word)
		}
	}
	rule := numbers(28)
	for range 200 {
		longWord := rule.anyWord(rule.next(0, impl.MaxLetters), rule.next(1, 5))
		checkHeights(t, longWord)
	}
}

func TestBalanceOfAllShortWords(t *testing.T) {
	for count := range 13 {
		for _, word := range wordsOf(count) {
			expect(t, "balanced "+word, shown(impl.IsBalanced(word)), shown(isEven(word)))
		}
	}
}

func TestBalanceOfLongWords(t *testing.T) {
	for _, word := range longWords() {
		want := isEven(word)
		expect(t, "balanced "+word, shown(impl.IsBalanced(word)), shown(want))
		for _, place := range []int{0, 1, 58, 59, 60, len(word) - 2, len(word) - 1} {
			other := exchanged(word, place)
			expect(t, "balanced "+other, shown(impl.IsBalanced(other)), shown(isEven(other)))
		}
	}
	rule := numbers(29)
	for range 300 {
		den := rule.next(1, impl.MaxDen)
		word := lineOf(rule.next(0, den), den, rule.next(0, den-1), rule.next(1, impl.MaxLetters))
		expect(t, "balanced "+word, shown(impl.IsBalanced(word)), "true")
		other := exchanged(word, int(rule.next(0, int64(len(word))-1)))
		expect(t, "balanced "+other, shown(impl.IsBalanced(other)), shown(isEven(other)))
	}
}

func TestWordsOfFewLetters(t *testing.T) {
	for _, word := range []string{"", "a", "b", "aa", "ab", "ba", "bb", "aaa", "bbb", strings.Repeat("a", impl.MaxLetters), strings.Repeat("b", impl.MaxLetters)} {
		expect(t, "balanced "+word, shown(impl.IsBalanced(word)), "true")
	}
}

func TestWordsThatAreBalancedByOnePairOnlyJust(t *testing.T) {
	just, noMore := 0, 0
	for count := range 13 {
		for _, word := range wordsOf(count) {
			if sumOfInts(apart(word, 0)) == 1 {
				just++
				expect(t, "balanced "+word, shown(impl.IsBalanced(word)), "true")
			}
			if sumOfInts(apart(word, 1)) == 1 {
				noMore++
				expect(t, "balanced "+word, shown(impl.IsBalanced(word)), "false")
			}
		}
	}
	expect(t, "ab and ba, aabb and so on", shown(just, noMore > 20), "2 true")
}

// halvesApart returns the words with MaxLetters letters of which only the two halves differ by more than 1.
func halvesApart() []string {
	var words []string
	half := int64(impl.MaxLetters / 2)
	for bs := range half {
		// A Christoffel word without its ends is the same from both sides.
		if word := lineOf(bs, half, 0, half); gcd(bs, half) == 1 {
			middle := word[1 : half-1]
			words = append(words, "a"+middle+"ab"+middle+"b", "b"+middle+"ba"+middle+"a")
		}
	}
	return words
}

func TestWordsThatAreNotBalancedByTheLongestPartsAlone(t *testing.T) {
	found := 0
	for count := range 13 {
		for _, word := range wordsOf(count) {
			pairs := apart(word, 1)
			if pairs[count/2] > 0 && pairs[count/2] == sumOfInts(pairs) {
				found++
				expect(t, "balanced "+word, shown(impl.IsBalanced(word)), "false")
			}
		}
	}
	words := halvesApart()
	expect(t, "numbers", shown(found > 20, len(words)), "true 32")
	for _, word := range words {
		pairs := apart(word, 1)
		expect(t, "pairs of "+word, shown(pairs[impl.MaxLetters/2], sumOfInts(pairs)), "1 1")
		expect(t, "balanced "+word, shown(impl.IsBalanced(word), impl.IsBalanced(word[1:]), impl.IsBalanced(word[:impl.MaxLetters-1])), "false true true")
		expect(t, "line of "+word, slopes(impl.SlopesOf(word))+line(impl.LineFor(word)), noSlopes+noLine)
	}
}

// leastPeriod tries each number for itself.
func leastPeriod(word string) int64 {
	for p := 1; p < len(word); p++ {
		isPeriod := true
		for i := p; i < len(word); i++ {
			isPeriod = isPeriod && word[i] == word[i-p]
		}
		if isPeriod {
			return int64(p)
		}
	}
	return max(1, int64(len(word)))
}

func TestPeriods(t *testing.T) {
	for word, want := range map[string]int64{
		"": 1, "a": 1, "b": 1, "aa": 1, "ab": 2, "aba": 2, "aab": 3, "abb": 3, "aaba": 3, "aabaa": 3, "aabaab": 3, "aabab": 5, "abaab": 3, "abaaba": 3, "ababa": 2, "aabb": 4, "abba": 3,
		strings.Repeat("a", 119) + "b": 120, strings.Repeat("a", 120): 1, strings.Repeat("b", 120): 1, strings.Repeat("ab", 60): 2, strings.Repeat("a", 119): 1,
		strings.Repeat("aab", 40): 3, strings.Repeat("aabab", 24): 5, strings.Repeat("aabaaba", 18)[:120]: 7, strings.Repeat("a", 59) + "b" + strings.Repeat("a", 60): 61, "b" + strings.Repeat("a", 118) + "b": 119,
		strings.Repeat("a", 60) + "b" + strings.Repeat("a", 59): 61,
	} {
		expect(t, "period of "+word, both(impl.PeriodOf(word)), both(want, true))
	}
	for count := range 13 {
		for _, word := range wordsOf(count) {
			expect(t, "period of "+word, both(impl.PeriodOf(word)), both(leastPeriod(word), true))
		}
	}
	rule := numbers(30)
	for range 400 {
		part := rule.anyWord(rule.next(1, impl.MaxLetters), 2)
		word := strings.Repeat(part, impl.MaxLetters)[:rule.next(1, impl.MaxLetters)]
		expect(t, "period of "+word, both(impl.PeriodOf(word)), both(leastPeriod(word), true))
	}
}

func TestCountsOfBalancedWords(t *testing.T) {
	for count := range 13 {
		balanced := 0
		for _, word := range wordsOf(count) {
			if isEven(word) {
				balanced++
			}
		}
		expect(t, "words of "+shown(count), both(impl.CountBalanced(int64(count))), both(balanced, true))
	}
	expect(t, "first ones", both(impl.CountBalanced(0))+both(impl.CountBalanced(1))+both(impl.CountBalanced(2))+both(impl.CountBalanced(3)), "1 true2 true4 true8 true")
	expect(t, "last one", both(impl.CountBalanced(impl.MaxTerms)), "944 true")
	for n := range int64(impl.MaxTerms + 1) {
		expect(t, "words of "+shown(n), both(impl.CountBalanced(n)), both(countByDenominators(n), true))
	}
	for _, n := range extremes() {
		if n < 0 || n > impl.MaxTerms {
			expect(t, "words of "+shown(n), both(impl.CountBalanced(n)), noNumber)
		}
	}
	expect(t, "just beyond", both(impl.CountBalanced(impl.MaxTerms+1))+both(impl.CountBalanced(-1)), noNumber+noNumber)
}

// countByDenominators returns how many balanced words there are by the formula of Lipatov: one word, and n + 1 - den for each fraction in lowest terms.
func countByDenominators(n int64) int64 {
	count := int64(1)
	for den := int64(1); den <= n; den++ {
		for num := range den {
			if gcd(num, den) == 1 {
				count += n + 1 - den
			}
		}
	}
	return count
}

// gcd returns the greatest common divisor, found by trying all numbers; of 0 and 0 it is 0.
func gcd(a, b int64) int64 {
	for d := max(a, b); d > 0; d-- {
		if a%d == 0 && b%d == 0 {
			return d
		}
	}
	return 0
}

func TestBalanceOfWordsAsBits(t *testing.T) {
	// Words as bits, with parts as masks, tell the balance of all words that CountBalanced counts up to 16 letters.
	for count := 13; count <= 16; count++ {
		balanced := int64(0)
		for word := range uint64(1) << count {
			if isEvenAsBits(word, count) {
				balanced++
			}
		}
		expect(t, "words of "+shown(count), both(impl.CountBalanced(int64(count))), both(balanced, true))
	}
}

// isEvenAsBits reports whether no two parts of a word that are as long differ by more than 1.
func isEvenAsBits(word uint64, count int) bool {
	for size := 2; size <= count/2; size++ {
		least, greatest := size, 0
		for i := range count - size + 1 {
			n := bits.OnesCount64(word >> i & (1<<size - 1))
			least, greatest = min(least, n), max(greatest, n)
		}
		if greatest-least > 1 {
			return false
		}
	}
	return true
}
