package tests

import (
	"math"
	"strconv"
	"strings"
	"testing"

	"loop.example/g01129/impl"
)

// The tests of this file are for promise 2: lists and values of chapter 1.

func TestExamplesOfValues(t *testing.T) {
	v, ok := impl.ReadValues("4:3,5")
	expect(t, "values", both(v, ok), "{4 [3 5]} true")
	list := []int64{1, 1}
	expect(t, "rounding", shown(impl.IsRounding(v, list)), "true")
	expect(t, "errors", both(impl.ErrorsOf(v, list)), "[1 -1] true")
}

// listTexts are lists with their texts.
func listTexts() map[string][]int64 {
	return map[string][]int64{
		"-": {}, "0": {0}, "-1": {-1}, "1,-2,3": {1, -2, 3}, "0,0": {0, 0},
		"1000000000,-1000000000":                           {impl.MaxValue, -impl.MaxValue},
		strings.Repeat("7,", 39) + "7":                     repeated(7, 40),
		strings.Repeat("-1000000000,", 39) + "-1000000000": repeated(-impl.MaxValue, 40),
	}
}

func TestListTextAndReadList(t *testing.T) {
	for text, list := range listTexts() {
		expect(t, "text of a list", both(impl.ListText(list)), both(text, true))
		expect(t, "list of a text", both(impl.ReadList(text)), both(list, true))
	}
	expect(t, "nil list", both(impl.ListText(nil)), both("-", true))
}

func TestListTextBeyondTheLimits(t *testing.T) {
	for _, n := range []int64{impl.MaxValue + 1, -impl.MaxValue - 1, math.MaxInt64, math.MinInt64} {
		expect(t, "number", both(impl.ListText([]int64{n})), noText)
		expect(t, "last number", both(impl.ListText([]int64{0, 1, n})), noText)
		expect(t, "first number", both(impl.ListText([]int64{n, 1, 0})), noText)
	}
	expect(t, "41 numbers", both(impl.ListText(repeated(1, 41))), noText)
}

// wrongListTexts are texts that are nearly those of a list.
func wrongListTexts() []string {
	return []string{
		"", ",", ",1", "1,", "1,,2", "1, 2", " 1,2", "1,2 ", "1 ,2", " ", "- ", " -", "--", "-,-", "-,1", "1,-", ",-", "-,",
		"01", "1,02", "+1", "1,+2", "-0", "1,-0", "00", "1;2", "1.2", "1,a", "a", "1\n", "1,2\n", "1\x00", "[1]", "1:2", "1/2",
		"1000000001", "-1000000001", "1,1000000001", "9223372036854775808", "1,18446744073709551617",
		strings.Repeat("7,", 40) + "7", strings.Repeat("7,", 40), strings.Repeat(",", 40), strings.Repeat("1,", 5000) + "1",
	}
}

func TestReadListOfOtherTexts(t *testing.T) {
	for _, s := range wrongListTexts() {
		expect(t, strconv.Quote(s), both(impl.ReadList(s)), noList)
	}
}

// invalidValues pass one limit of values by one, or have extreme numbers.
func invalidValues() []impl.Values {
	return []impl.Values{
		{}, values(0, 1), values(-1, 1), values(-1), values(impl.MaxDen+1, 1), values(impl.MaxDen + 1),
		values(math.MinInt64, 0), values(math.MaxInt64, 0),
		values(1, impl.MaxNum+1), values(1, -impl.MaxNum-1), values(7, 1, 2, impl.MaxNum+1), values(7, -impl.MaxNum-1, 1, 2),
		values(1, math.MinInt64), values(1, math.MaxInt64), values(1, repeated(0, 41)...), values(1000, repeated(0, 5000)...),
	}
}

// validValues reach the limits of values, or are ordinary ones.
func validValues() []impl.Values {
	return []impl.Values{
		values(1), {Den: impl.MaxDen}, {Den: 1, Nums: []int64{}}, values(1, 0), values(4, 3, 5), values(2, 1, -1, 3, -3, 5, -5),
		values(3, -7, -6, -5, -4, -3, -2, -1, 0, 1, 2, 3), values(1000, -1, 1, 500, -500, 1500, -1500, 999, 1001), values(6, 4, 3, 2),
		values(1, impl.MaxNum, -impl.MaxNum), values(impl.MaxDen, impl.MaxNum, -impl.MaxNum), values(7, impl.MaxNum, -impl.MaxNum),
		values(3, repeated(-impl.MaxNum, 40)...), values(impl.MaxDen, repeated(impl.MaxNum, 40)...),
	}
}

func TestValidValues(t *testing.T) {
	for _, v := range validValues() {
		expect(t, "valid "+shown(v), shown(impl.ValidValues(v)), "true")
	}
	for _, v := range invalidValues() {
		expect(t, "valid "+shown(v), shown(impl.ValidValues(v)), "false")
	}
}

func TestFloorsCeilingsAndNearestOf(t *testing.T) {
	for _, v := range validValues() {
		floors, one := impl.FloorsOf(v)
		ceilings, two := impl.CeilingsOf(v)
		nearest, three := impl.NearestOf(v)
		lengths := []int{len(floors), len(ceilings), len(nearest)}
		expect(t, "lengths "+shown(v), shown(one, two, three, lengths), shown(true, true, true, []int{len(v.Nums), len(v.Nums), len(v.Nums)}))
		for i, num := range v.Nums {
			if !isFloor(floors[i], num, v.Den) || !isCeiling(ceilings[i], num, v.Den) || !isNearest(nearest[i], num, v.Den) {
				t.Errorf("%d / %d: got %d, %d and %d", num, v.Den, floors[i], ceilings[i], nearest[i])
			}
		}
	}
}

func TestRoundingsOfNegativeValues(t *testing.T) {
	v := values(2, -5, -4, -3, -2, -1, 0, 1, 2, 3, 4, 5)
	expect(t, "floors", both(impl.FloorsOf(v)), "[-3 -2 -2 -1 -1 0 0 1 1 2 2] true")
	expect(t, "ceilings", both(impl.CeilingsOf(v)), "[-2 -2 -1 -1 0 0 1 1 2 2 3] true")
	expect(t, "nearest", both(impl.NearestOf(v)), "[-2 -2 -2 -1 0 0 0 1 2 2 2] true")
	expect(t, "sum", both(impl.SumOf(v)), "0 true")
}

func TestFunctionsOfInvalidValuesFail(t *testing.T) {
	for _, v := range invalidValues() {
		what := shown(v)
		zeros := repeated(0, len(v.Nums))
		expect(t, "floors "+what, both(impl.FloorsOf(v)), noList)
		expect(t, "ceilings "+what, both(impl.CeilingsOf(v)), noList)
		expect(t, "nearest "+what, both(impl.NearestOf(v)), noList)
		expect(t, "errors "+what, both(impl.ErrorsOf(v, zeros)), noList)
		expect(t, "rounding "+what, shown(impl.IsRounding(v, zeros), impl.IsRounding(v, v.Nums)), "false false")
		expect(t, "sum "+what, both(impl.SumOf(v)), noNumber)
		expect(t, "text "+what, both(impl.ValuesText(v)), noText)
	}
}

func TestIsRounding(t *testing.T) {
	for num := int64(-20); num <= 20; num++ {
		for den := int64(1); den <= 7; den++ {
			for n := int64(-25); n <= 25; n++ {
				want := isFloor(n, num, den) || isCeiling(n, num, den)
				expect(t, "rounding "+shown(num, den, n), shown(impl.IsRounding(values(den, num), []int64{n})), shown(want))
			}
		}
	}
	v := values(2, 1, 2, -3)
	for _, list := range [][]int64{{0, 1, -2}, {1, 1, -1}, {0, 1, -1}, {1, 1, -2}} {
		expect(t, "rounding "+shown(list), shown(impl.IsRounding(v, list)), "true")
	}
	for _, list := range [][]int64{nil, {}, {0}, {0, 1}, {0, 1, -2, 0}, {0, 2, -2}, {2, 1, -2}, {-1, 1, -2}, {0, 1, 0}, {0, 1, -3}, {0, 1, math.MinInt64}, {math.MaxInt64, 1, -2}} {
		expect(t, "rounding "+shown(list), shown(impl.IsRounding(v, list)), "false")
	}
	expect(t, "no values", shown(impl.IsRounding(values(1), nil), impl.IsRounding(values(1), []int64{}), impl.IsRounding(values(1), []int64{0})), "true true false")
	big := values(1, repeated(impl.MaxNum, 40)...)
	expect(t, "limits", shown(impl.IsRounding(big, repeated(impl.MaxNum, 40)), impl.IsRounding(big, repeated(impl.MaxNum, 41))), "true false")
}

func TestErrorsOf(t *testing.T) {
	expect(t, "no rounding", both(impl.ErrorsOf(values(4, 3, 5), []int64{-2, 7})), "[-11 23] true")
	expect(t, "negative", both(impl.ErrorsOf(values(3, -7, -2), []int64{-2, -1})), "[1 -1] true")
	expect(t, "exact", both(impl.ErrorsOf(values(3, -6, 6, 0), []int64{-2, 2, 0})), "[0 0 0] true")
	expect(t, "no values", both(impl.ErrorsOf(values(5), nil)), "[] true")
	greatest := values(impl.MaxDen, -impl.MaxNum, impl.MaxNum)
	expect(t, "limits", both(impl.ErrorsOf(greatest, []int64{impl.MaxValue, -impl.MaxValue})), "[1000001000000 -1000001000000] true")
	for _, n := range []int64{impl.MaxValue + 1, -impl.MaxValue - 1, math.MaxInt64, math.MinInt64} {
		expect(t, "number", both(impl.ErrorsOf(greatest, []int64{0, n})), noList)
		expect(t, "number", both(impl.ErrorsOf(greatest, []int64{n, 0})), noList)
	}
	for _, list := range [][]int64{nil, {}, {1}, {1, 1, 1}, repeated(1, 41)} {
		expect(t, "length", both(impl.ErrorsOf(values(4, 3, 5), list)), noList)
	}
	expect(t, "length", both(impl.ErrorsOf(values(4), []int64{0})), noList)
	expect(t, "40 values", both(impl.ErrorsOf(values(2, repeated(1, 40)...), repeated(1, 40))), both(repeated(1, 40), true))
}

func TestErrorsOfRoundingsAreLessThanDen(t *testing.T) {
	for _, v := range validValues() {
		floors, _ := impl.FloorsOf(v)
		ceilings, _ := impl.CeilingsOf(v)
		nearest, _ := impl.NearestOf(v)
		low, _ := impl.ErrorsOf(v, floors)
		high, _ := impl.ErrorsOf(v, ceilings)
		least, _ := impl.ErrorsOf(v, nearest)
		for i := range v.Nums {
			if low[i] > 0 || low[i] <= -v.Den || high[i] < 0 || high[i] >= v.Den || 2*max(least[i], -least[i]) > v.Den {
				t.Errorf("errors of %v at %d: %d, %d and %d", v, i, low[i], high[i], least[i])
			}
		}
		expect(t, "roundings "+shown(v), shown(impl.IsRounding(v, floors), impl.IsRounding(v, ceilings), impl.IsRounding(v, nearest)), "true true true")
	}
}

func TestSumOf(t *testing.T) {
	expect(t, "two", both(impl.SumOf(values(4, 3, 5))), "8 true")
	expect(t, "negative", both(impl.SumOf(values(9, 3, -5, 1))), "-1 true")
	expect(t, "none", both(impl.SumOf(values(9))), "0 true")
	expect(t, "greatest", both(impl.SumOf(values(1, repeated(impl.MaxNum, 40)...))), "40000000 true")
	expect(t, "least", both(impl.SumOf(values(1, repeated(-impl.MaxNum, 40)...))), "-40000000 true")
}

func TestValuesTextAndReadValues(t *testing.T) {
	for text, v := range map[string]impl.Values{
		"4:3,5": values(4, 3, 5), "1:-": values(1), "1000:-": values(1000), "1000:1000000,-1000000": values(1000, 1000000, -1000000),
		"1:0": values(1, 0), "2:-1": values(2, -1), "6:4,2": values(6, 4, 2), "7:" + strings.Repeat("1,", 39) + "1": values(7, repeated(1, 40)...),
	} {
		expect(t, "text of values", both(impl.ValuesText(v)), both(text, true))
		expect(t, "values of a text", both(impl.ReadValues(text)), both(v, true))
	}
	for _, v := range validValues() {
		text, ok := impl.ValuesText(v)
		expect(t, "text "+shown(v), shown(ok), "true")
		expect(t, "there and back", both(impl.ReadValues(text)), both(v, true))
	}
}

func TestReadValuesOfOtherTexts(t *testing.T) {
	texts := []string{
		"", ":", "4", "4:", ":3,5", ":-", "-", "3,5", "4 3,5", "4::3,5", "4:3,5:", ":4:3,5", "4:3:5", "4:3,5:1", "4;3,5", "4/3,5", "4,3,5",
		"0:1", "0:-", "-1:1", "-4:3,5", "1001:1", "1001:-", "-0:1", "+4:3", "04:3", "4 :3", " 4:3", "4: 3", "4:3 ", "4:3, 5", "4:3,5\n", "\n4:3,5",
		"1:1000001", "1:-1000001", "1:0,1000001", "1000000001:1", "1:1000000001", "9223372036854775808:1", "1.0:1", "a:1", "4:a", "1:9223372036854775808",
		"18446744073709551620:1", "7:" + strings.Repeat("1,", 40) + "1", strings.Repeat(":", 100), "4:3,5\x00", "4：3",
	}
	for _, s := range wrongListTexts() {
		texts = append(texts, "4:"+s)
	}
	for _, s := range texts {
		expect(t, strconv.Quote(s), both(impl.ReadValues(s)), noValues)
	}
}
