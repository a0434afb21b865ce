package tests

import (
	"math"
	"math/big"
	"strconv"
	"strings"
	"testing"

	"loop.example/g01129/impl"
)

// The tests of this file are for promise 2: numbers, names and divisions of chapter 1.

func TestLimitsOfBasics(t *testing.T) {
	got := []int64{impl.MaxName, impl.MaxValue, impl.MaxItems, impl.MaxDen, impl.MaxNum, impl.CheckSize}
	expect(t, "limits", shown(got), "[9 1000000000 40 1000 1000000 65521]")
}

func TestExamplesOfDivision(t *testing.T) {
	expect(t, "floor of 7 / 2", both(impl.DivFloor(7, 2)), "3 true")
	expect(t, "ceiling of 7 / 2", both(impl.DivCeiling(7, 2)), "4 true")
	expect(t, "nearest to 7 / 2", both(impl.DivNearest(7, 2)), "4 true")
	expect(t, "nearest to 5 / 2", both(impl.DivNearest(5, 2)), "2 true")
}

func TestIsName(t *testing.T) {
	for _, s := range []string{"a", "z", "m", "leap", "abcdefghi", "zzzzzzzzz", "aaaaaaaaa"} {
		if !impl.IsName(s) {
			t.Errorf("%q must be a name", s)
		}
	}
	for b := 0; b < 256; b++ {
		s := string([]byte{byte(b)})
		if impl.IsName(s) != (b >= 'a' && b <= 'z') || impl.IsName("a"+s) != impl.IsName(s) || impl.IsName(s+"a") != impl.IsName(s) {
			t.Errorf("name of the byte %d, alone or beside a letter", b)
		}
	}
	for _, s := range []string{"", "abcdefghij", "Leap", "a b", " a", "a ", "a1", "a-b", "ä", "aé", "\xff", "a\x00", "a\n", "ａ", "\u0430", strings.Repeat("a", 5000)} {
		if impl.IsName(s) {
			t.Errorf("%q must be no name", s)
		}
	}
}

func TestDecimal(t *testing.T) {
	for _, c := range []struct {
		n    int64
		want string
	}{
		{0, "0"}, {7, "7"}, {-7, "-7"}, {10, "10"}, {-10, "-10"}, {1000000000, "1000000000"},
		{math.MaxInt64, "9223372036854775807"}, {math.MinInt64, "-9223372036854775808"},
		{math.MaxInt64 - 1, "9223372036854775806"}, {math.MinInt64 + 1, "-9223372036854775807"},
	} {
		expect(t, "decimal", impl.Decimal(c.n), c.want)
	}
	for _, n := range extremes() {
		expect(t, "decimal", impl.Decimal(n), big.NewInt(n).String())
	}
}

func TestReadDecimal(t *testing.T) {
	for _, n := range extremes() {
		want := noNumber
		if -impl.MaxValue <= n && n <= impl.MaxValue {
			want = both(n, true)
		}
		expect(t, "number of "+impl.Decimal(n), both(impl.ReadDecimal(impl.Decimal(n))), want)
	}
	for n := int64(-1234); n <= 1234; n++ {
		expect(t, "number", both(impl.ReadDecimal(strconv.FormatInt(n, 10))), both(n, true))
	}
}

func TestReadDecimalOfOtherTexts(t *testing.T) {
	for _, s := range []string{
		"", "-", "+", "+0", "+1", "-0", "--1", "-+1", "+-1", "00", "01", "-01", "007", " 1", "1 ", "1 2", "- 1", " ", "\t1", "1\n",
		"1.0", "1.", ".5", "1e3", "0x10", "0b1", "0o7", "1_000", "1,000", "a", "1a", "1-", "1\x00", "\xff", "١", "１", "−1",
		"1000000001", "-1000000001", "9223372036854775807", "-9223372036854775808", "9223372036854775808", "-9223372036854775809",
		"18446744073709551617", "18446744073709551616", strings.Repeat("9", 3000), strings.Repeat("0", 3000) + "1",
	} {
		expect(t, strconv.Quote(s), both(impl.ReadDecimal(s)), noNumber)
	}
}

// isFloor and isNearest say what the document says, without dividing.
func isFloor(q, a, b int64) bool { return q*b <= a && a < (q+1)*b }

func isCeiling(q, a, b int64) bool { return (q-1)*b < a && a <= q*b }

func isNearest(q, a, b int64) bool {
	twice := 2 * (a - q*b)
	if twice < 0 {
		twice = -twice
	}
	return twice < b || twice == b && q%2 == 0
}

func checkDivisions(t *testing.T, a, b int64) {
	t.Helper()
	if q, ok := impl.DivFloor(a, b); !ok || !isFloor(q, a, b) {
		t.Errorf("floor of %d / %d: got %d, %v", a, b, q, ok)
	}
	if q, ok := impl.DivCeiling(a, b); !ok || !isCeiling(q, a, b) {
		t.Errorf("ceiling of %d / %d: got %d, %v", a, b, q, ok)
	}
	if q, ok := impl.DivNearest(a, b); !ok || !isNearest(q, a, b) {
		t.Errorf("nearest to %d / %d: got %d, %v", a, b, q, ok)
	}
}

func TestDivisionsOfAllSmallNumbers(t *testing.T) {
	for a := int64(-130); a <= 130; a++ {
		for b := int64(1); b <= 31; b++ {
			checkDivisions(t, a, b)
		}
	}
}

func TestDivisionsWithinAndBeyondTheLimits(t *testing.T) {
	for _, a := range extremes() {
		for _, b := range extremes() {
			if -impl.MaxValue <= a && a <= impl.MaxValue && 1 <= b && b <= impl.MaxValue {
				checkDivisions(t, a, b)
				continue
			}
			expect(t, "floor "+shown(a, b), both(impl.DivFloor(a, b)), noNumber)
			expect(t, "ceiling "+shown(a, b), both(impl.DivCeiling(a, b)), noNumber)
			expect(t, "nearest "+shown(a, b), both(impl.DivNearest(a, b)), noNumber)
		}
	}
}

func TestDivisionsOfNegativeNumbers(t *testing.T) {
	for _, c := range []struct{ a, b, floor, ceiling, nearest int64 }{
		{-7, 2, -4, -3, -4}, {-1, 3, -1, 0, 0}, {-2, 3, -1, 0, -1}, {-6, 3, -2, -2, -2}, {0, 5, 0, 0, 0},
		{-1000000000, 1, -1000000000, -1000000000, -1000000000}, {1000000000, 1000000000, 1, 1, 1},
		{-999999999, 1000000000, -1, 0, -1}, {1, 1000000000, 0, 1, 0}, {-1, 1000000000, -1, 0, 0},
	} {
		what := shown(c.a, c.b)
		expect(t, "floor "+what, both(impl.DivFloor(c.a, c.b)), both(c.floor, true))
		expect(t, "ceiling "+what, both(impl.DivCeiling(c.a, c.b)), both(c.ceiling, true))
		expect(t, "nearest "+what, both(impl.DivNearest(c.a, c.b)), both(c.nearest, true))
	}
}

func TestTiesOfDivNearest(t *testing.T) {
	for _, c := range []struct{ a, b, want int64 }{
		{1, 2, 0}, {3, 2, 2}, {5, 2, 2}, {7, 2, 4}, {9, 2, 4}, {-1, 2, 0}, {-3, 2, -2}, {-5, 2, -2}, {-7, 2, -4}, {-9, 2, -4},
		{3, 6, 0}, {9, 6, 2}, {-3, 6, 0}, {-9, 6, -2}, {50, 100, 0}, {150, 100, 2}, {-150, 100, -2}, {-250, 100, -2},
		{500000000, 1000000000, 0}, {-500000000, 1000000000, 0}, {500000001, 1000000000, 1}, {-500000001, 1000000000, -1},
		{499999999, 1000000000, 0}, {999999999, 2, 500000000}, {-999999999, 2, -500000000}, {999999997, 2, 499999998},
	} {
		expect(t, "nearest "+shown(c.a, c.b), both(impl.DivNearest(c.a, c.b)), both(c.want, true))
	}
}

func TestCompareRatios(t *testing.T) {
	for _, c := range []struct{ a, b, c, d, want int64 }{
		{1, 3, 2, 6, 0}, {-1, 2, 1, 3, -1}, {1, 3, -1, 2, 1}, {1, 2, 1, 3, 1}, {-1, 2, -1, 3, -1}, {0, 1, 0, 1000000000, 0},
		{-1000000000, 1, 1000000000, 1, -1}, {1000000000, 999999999, 999999999, 999999998, -1}, {999999999, 1000000000, 999999998, 999999999, 1},
		{1000000000, 1000000000, 1, 1, 0}, {-1, 1000000000, 0, 1, -1}, {1000000000, 1, -1000000000, 1, 1},
	} {
		expect(t, "compare "+shown(c.a, c.b, c.c, c.d), both(impl.CompareRatios(c.a, c.b, c.c, c.d)), both(c.want, true))
	}
}

func TestCompareRatiosAgainstExactFractions(t *testing.T) {
	numbers := []int64{math.MinInt64, -1000000001, -1000000000, -999999999, -3, -1, 0, 1, 2, 3, 999999999, 1000000000, 1000000001, math.MaxInt64}
	isNum := func(n int64) bool { return -impl.MaxValue <= n && n <= impl.MaxValue }
	isDen := func(n int64) bool { return 1 <= n && n <= impl.MaxValue }
	for _, a := range numbers {
		for _, b := range numbers {
			for _, c := range numbers {
				for _, d := range numbers {
					want := noNumber
					if isNum(a) && isDen(b) && isNum(c) && isDen(d) {
						want = both(big.NewRat(a, b).Cmp(big.NewRat(c, d)), true)
					}
					expect(t, "compare "+shown(a, b, c, d), both(impl.CompareRatios(a, b, c, d)), want)
				}
			}
		}
	}
}

func TestCheckOf(t *testing.T) {
	expect(t, "example", both(impl.CheckOf(5, "")), "5 true")
	expect(t, "a", both(impl.CheckOf(0, "a")), "104 true")
	expect(t, "ab", both(impl.CheckOf(0, "ab")), both((263*104+98+7)%65521, true))
	expect(t, "zero byte", both(impl.CheckOf(0, "\x00")), "7 true")
	expect(t, "byte 255", both(impl.CheckOf(0, "\xff")), "262 true")
	expect(t, "two bytes of one letter", both(impl.CheckOf(0, "é")), both((263*(0xc3+7)+0xa9+7)%65521, true))
	expect(t, "greatest start", both(impl.CheckOf(65520, "")), "65520 true")
	expect(t, "greatest start and a byte", both(impl.CheckOf(65520, "\x00")), both((263*65520+7)%65521, true))
	for _, start := range []int64{-1, 65521, 65522, math.MinInt64, math.MaxInt64} {
		expect(t, "start", both(impl.CheckOf(start, "")), noNumber)
		expect(t, "start", both(impl.CheckOf(start, "a")), noNumber)
	}
}

func TestCheckOfEveryByteAndOfParts(t *testing.T) {
	for _, start := range []int64{0, 1, 249, 250, 65519, 65520} {
		for b := 0; b < 256; b++ {
			got, ok := impl.CheckOf(start, string([]byte{byte(b)}))
			expect(t, "check of one byte", both(got, ok), both((263*start+int64(b)+7)%65521, true))
		}
	}
	text := strings.Repeat("leap year \xff\x00\n", 400)
	whole, _ := impl.CheckOf(77, text)
	for _, at := range []int{0, 1, 12, 13, 2500, len(text)} {
		first, _ := impl.CheckOf(77, text[:at])
		expect(t, "check of two parts", both(impl.CheckOf(first, text[at:])), both(whole, true))
	}
}
