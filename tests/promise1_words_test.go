package tests

import (
	"math"
	"strings"
	"testing"

	"loop.example/g01129/impl"
)

// The tests of this file are for promise 1 and the functions of chapter 7.

// anyLetters are words of all kinds, and other texts.
func anyLetters() []string {
	texts := append(append(anyTexts(), noWords()...), longWords()...)
	for count := range 7 {
		texts = append(texts, wordsOf(count)...)
	}
	return append(append(texts, halvesApart()...), strings.Repeat("ab", 100000), strings.Repeat("a", 1000000))
}

// anyParts are numbers around the limits of chapter 7, and other numbers.
func anyParts() []int64 {
	return append(extremes(), 3, 5, 19, 20, 21, 59, 60, 61, 119, 120, 121, 999, 1001, 1<<32, 1<<62)
}

func TestWordsReturnAndRepeat(t *testing.T) {
	for _, s := range anyLetters() {
		given := strings.Clone(s)
		twice(t, "words", func() string {
			return shown(impl.IsWord(s), impl.IsBalanced(s)) + both(impl.HeightsOf(s)) + both(impl.PeriodOf(s)) + slopes(impl.SlopesOf(s)) + line(impl.LineFor(s))
		})
		expect(t, "the text", shown(s == given), "true")
	}
}

func TestLinesAndFractionsReturnAndRepeat(t *testing.T) {
	for _, a := range anyParts() {
		twice(t, "counts", func() string { return both(impl.CountBalanced(a)) })
		for _, b := range anyParts() {
			twice(t, "two numbers", func() string {
				return both(impl.ChristoffelWord(a, b)) + both(impl.CutOf(a, b)) + both(impl.ContinuedOf(a, b))
			})
			for _, c := range anyParts() {
				twice(t, "gaps", func() string { return both(impl.GapsOf(a, b, c)) })
				for _, d := range []int64{math.MinInt64, -1, 0, 1, 4, 5, 119, 120, 121, 999, math.MaxInt64} {
					twice(t, "lines", func() string { return both(impl.LineWord(a, b, c, d)) })
				}
			}
		}
	}
}

// anyTerms are lists of terms of all kinds, and others.
func anyTerms() [][]int64 {
	const most = int64(impl.MaxValue)
	return append(anyLists(), row(2, 3), row(0, 1, 2), row(1, 2), row(119), row(120), row(0, 119), repeated(1, 9), repeated(1, 19), repeated(2, 20), repeated(2, 21), row(most), row(1, most-1), row(1, most), repeated(most, 20), row(2, 1), row(2, 0, 2), repeated(1<<32, 20), row(math.MaxInt64, 2), row(2, math.MaxInt64, 2))
}

func TestTermsReturnRepeatAndChangeNothing(t *testing.T) {
	for _, given := range anyTerms() {
		list, isSame := guarded(given)
		twice(t, "terms", func() string { return three(impl.FromContinued(list)) + both(impl.StandardWord(list)) })
		if !isSame() {
			t.Errorf("FromContinued or StandardWord changes %v", given)
		}
	}
}

func TestWordsReturnNewLists(t *testing.T) {
	word := "aabab"
	checkNewLists(t, func() string { return shown(word) }, map[string]func() ([]int64, []int64, bool){
		"HeightsOf":            func() ([]int64, []int64, bool) { r, ok := impl.HeightsOf(word); return r, nil, ok },
		"HeightsOf no letters": func() ([]int64, []int64, bool) { r, ok := impl.HeightsOf(""); return r, nil, ok },
		"ContinuedOf":          func() ([]int64, []int64, bool) { r, ok := impl.ContinuedOf(7, 3); return r, nil, ok },
		"ContinuedOf 0":        func() ([]int64, []int64, bool) { r, ok := impl.ContinuedOf(0, 3); return r, nil, ok },
		"GapsOf":               func() ([]int64, []int64, bool) { r, ok := impl.GapsOf(2, 5, 3); return r, nil, ok },
		"GapsOf one point":     func() ([]int64, []int64, bool) { r, ok := impl.GapsOf(0, 5, 1); return r, nil, ok },
		"GapsOf all points":    func() ([]int64, []int64, bool) { r, ok := impl.GapsOf(2, 5, 5); return r, nil, ok },
	})
}

func TestTermsOfNilAndEmptyListsAreTheSame(t *testing.T) {
	results := func(list []int64) string { return three(impl.FromContinued(list)) + both(impl.StandardWord(list)) }
	expect(t, "nil and empty", results(nil), results([]int64{}))
	expect(t, "empty", results([]int64{}), noFraction+`"a" true`)
	expect(t, "empty with capacity", results(make([]int64, 0, 5)), noFraction+`"a" true`)
}
