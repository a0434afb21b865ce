package impl

import (
	"cmp"
	"errors"
	"strconv"
	"strings"
)

// Limits of chapter 1.
const (
	MaxName   = 9
	MaxValue  = 1000000000
	MaxItems  = 40
	MaxDen    = 1000
	MaxNum    = 1000000
	CheckSize = 65521
)

// What separates the parts of texts, and what stands for a list without numbers.
const (
	listMark  = ","
	headMark  = ":"
	emptyList = "-"
)

// Values are fractions with one denominator.
type Values struct {
	Den  int64
	Nums []int64
}

// fault tells why a text is not one that a reader takes.
type fault struct{ reason string }

// Error returns the reason.
func (f *fault) Error() string { return f.reason }

// partFault is an error in one part of a text.
type partFault struct {
	part  string
	cause error
}

// Error returns the part and what is wrong with it.
func (p *partFault) Error() string { return strconv.Quote(p.part) + ": " + p.cause.Error() }

// Unwrap returns what is wrong with the part.
func (p *partFault) Unwrap() error { return p.cause }

// outcome turns what a reader returns into what exported functions return.
// Every error of a reader has a fault at its end, but it can lie in a part of a part.
func outcome[T any](value T, err error) (T, bool) {
	var f *fault
	if errors.As(err, &f) {
		var zero T
		return zero, false
	}
	return value, true
}

// mapped returns f of each element of a list.
func mapped[T, U any](list []T, f func(T) U) []U {
	images := make([]U, len(list))
	for i, x := range list {
		images[i] = f(x)
	}
	return images
}

// within reports whether n is neither less than low nor greater than high.
func within(n, low, high int64) bool { return low <= n && n <= high }

// allWithin reports whether there are at most MaxItems numbers, all of them from -limit to limit.
func allWithin(list []int64, limit int64) bool {
	if len(list) > MaxItems {
		return false
	}
	for _, n := range list {
		if !within(n, -limit, limit) {
			return false
		}
	}
	return true
}

// total returns the sum of a list.
func total(list []int64) int64 {
	sum := int64(0)
	for _, n := range list {
		sum += n
	}
	return sum
}

// IsName reports whether s is a name.
func IsName(s string) bool {
	if len(s) < 1 || len(s) > MaxName {
		return false
	}
	for _, r := range s {
		if !isSmallLetter(r) {
			return false
		}
	}
	return true
}

// isSmallLetter reports whether r is one of the letters a to z.
func isSmallLetter(r rune) bool { return 'a' <= r && r <= 'z' }

// Decimal returns n in decimal.
func Decimal(n int64) string { return strconv.FormatInt(n, 10) }

// ReadDecimal returns the number with the given decimal text.
func ReadDecimal(s string) (int64, bool) { return outcome(readNumber(s)) }

// readNumber returns the number from -MaxValue to MaxValue whose Decimal is s.
func readNumber(s string) (int64, error) {
	n, err := strconv.ParseInt(s, 10, 64)
	if err != nil {
		return 0, &fault{"not a number of 64 bits"}
	}
	if !within(n, -MaxValue, MaxValue) {
		return 0, &fault{"beyond MaxValue"}
	}
	// ParseInt takes other texts of a number too: +1, -0, 01.
	if Decimal(n) != s {
		return 0, &fault{"not in the form of Decimal"}
	}
	return n, nil
}

// isRatio reports whether a / b has a numerator and a denominator within the limits.
func isRatio(a, b int64) bool { return within(a, -MaxValue, MaxValue) && within(b, 1, MaxValue) }

// floorOf returns a / b rounded down, for b greater than 0.
func floorOf(a, b int64) int64 {
	quotient := a / b
	// Go rounds toward 0, which is up for what is negative.
	if a%b < 0 {
		quotient--
	}
	return quotient
}

// ceilingOf returns a / b rounded up, for b greater than 0.
func ceilingOf(a, b int64) int64 { return -floorOf(-a, b) }

// nearestOf returns the integer nearest to a / b, the even one of two, for b greater than 0.
func nearestOf(a, b int64) int64 {
	low := floorOf(a, b)
	rest := a - b*low
	if 2*rest < b || 2*rest == b && low%2 == 0 {
		return low
	}
	return low + 1
}

// DivFloor returns a / b rounded down.
func DivFloor(a, b int64) (int64, bool) { return divided(a, b, floorOf) }

// DivCeiling returns a / b rounded up.
func DivCeiling(a, b int64) (int64, bool) { return divided(a, b, ceilingOf) }

// DivNearest returns the integer nearest to a / b.
func DivNearest(a, b int64) (int64, bool) { return divided(a, b, nearestOf) }

// divided returns a / b as round rounds it, if both are within the limits.
func divided(a, b int64, round func(a, b int64) int64) (int64, bool) {
	if !isRatio(a, b) {
		return 0, false
	}
	return round(a, b), true
}

// CompareRatios compares two ratios.
func CompareRatios(a, b, c, d int64) (int64, bool) {
	if !isRatio(a, b) || !isRatio(c, d) {
		return 0, false
	}
	return int64(cmp.Compare(a*d, c*b)), true
}

// ValidValues reports whether v is valid.
func ValidValues(v Values) bool { return within(v.Den, 1, MaxDen) && allWithin(v.Nums, MaxNum) }

// FloorsOf returns all values rounded down.
func FloorsOf(v Values) ([]int64, bool) { return allDivided(v, floorOf) }

// CeilingsOf returns all values rounded up.
func CeilingsOf(v Values) ([]int64, bool) { return allDivided(v, ceilingOf) }

// NearestOf returns the integers nearest to all values.
func NearestOf(v Values) ([]int64, bool) { return allDivided(v, nearestOf) }

// allDivided returns all values as round rounds them, if they are valid.
func allDivided(v Values, round func(a, b int64) int64) ([]int64, bool) {
	if !ValidValues(v) {
		return nil, false
	}
	return mapped(v.Nums, func(num int64) int64 { return round(num, v.Den) }), true
}

// IsRounding reports whether a list is a rounding of values.
func IsRounding(v Values, list []int64) bool {
	if !ValidValues(v) || len(list) != len(v.Nums) {
		return false
	}
	for i, num := range v.Nums {
		if list[i] != floorOf(num, v.Den) && list[i] != ceilingOf(num, v.Den) {
			return false
		}
	}
	return true
}

// ErrorsOf returns the errors of a list.
func ErrorsOf(v Values, list []int64) ([]int64, bool) {
	if !ValidValues(v) || len(list) != len(v.Nums) || !allWithin(list, MaxValue) {
		return nil, false
	}
	errs := make([]int64, len(list))
	for i, n := range list {
		errs[i] = v.Den*n - v.Nums[i]
	}
	return errs, true
}

// SumOf returns the sum of the numerators.
func SumOf(v Values) (int64, bool) {
	if !ValidValues(v) {
		return 0, false
	}
	return total(v.Nums), true
}

// ListText returns the text of a list.
func ListText(list []int64) (string, bool) {
	if !allWithin(list, MaxValue) {
		return "", false
	}
	return joined(list), true
}

// joined returns the text of a list without looking at its limits.
func joined(list []int64) string {
	if len(list) == 0 {
		return emptyList
	}
	return strings.Join(mapped(list, Decimal), listMark)
}

// ReadList returns the list with the given text.
func ReadList(s string) ([]int64, bool) { return outcome(readNumbers(s)) }

// readNumbers returns the list whose ListText is s.
func readNumbers(s string) ([]int64, error) {
	if s == emptyList {
		return nil, nil
	}
	if strings.Count(s, listMark) >= MaxItems {
		return nil, &fault{"more than MaxItems numbers"}
	}
	return readParts(s, listMark, readNumber)
}

// readParts returns what read returns for each of the parts of a text that a mark separates.
func readParts[T any](s, mark string, read func(string) (T, error)) ([]T, error) {
	parts := strings.Split(s, mark)
	list := make([]T, len(parts))
	for i, part := range parts {
		x, err := read(part)
		if err != nil {
			return nil, &partFault{part, err}
		}
		list[i] = x
	}
	return list, nil
}

// ValuesText returns the text of values.
func ValuesText(v Values) (string, bool) {
	if !ValidValues(v) {
		return "", false
	}
	return Decimal(v.Den) + headMark + joined(v.Nums), true
}

// ReadValues returns the values with the given text.
func ReadValues(s string) (Values, bool) { return outcome(readFractions(s)) }

// readFractions returns the valid values whose ValuesText is s.
func readFractions(s string) (Values, error) {
	den, behind, err := readHead(s)
	if err != nil {
		return Values{}, err
	}
	nums, err := readNumbers(behind)
	if err != nil {
		return Values{}, &partFault{behind, err}
	}
	v := Values{Den: den, Nums: nums}
	if !ValidValues(v) {
		return Values{}, &fault{"values that are not valid"}
	}
	return v, nil
}

// readHead returns the number with which a text begins, and the text behind its mark.
func readHead(s string) (int64, string, error) {
	before, behind, found := strings.Cut(s, headMark)
	if !found {
		return 0, "", &fault{"no number in front of a mark"}
	}
	head, err := readNumber(before)
	if err != nil {
		return 0, "", &partFault{before, err}
	}
	return head, behind, nil
}

// CheckOf returns the check number of a text.
func CheckOf(start int64, s string) (int64, bool) {
	if !within(start, 0, CheckSize-1) {
		return 0, false
	}
	check := start
	for _, b := range []byte(s) {
		check = (263*check + int64(b) + 7) % CheckSize
	}
	return check, true
}
