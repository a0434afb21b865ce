// Package tests tests the exported functions of package impl against the promises of the specification.
package tests

import (
	"fmt"
	"math"
	"slices"
	"strings"
	"testing"

	"loop.example/g01129/impl"
)

// shown writes results so that a nil slice and an empty one look the same, and a text cannot look like a number.
func shown(results ...any) string {
	parts := make([]string, len(results))
	for i, r := range results {
		if s, ok := r.(string); ok {
			parts[i] = fmt.Sprintf("%q", s)
		} else {
			parts[i] = fmt.Sprintf("%v", r)
		}
	}
	return strings.Join(parts, " ")
}

// both keeps two results of a call together: a value, and whether the call succeeded.
func both(value any, ok bool) string { return shown(value, ok) }

// expect compares what a call returned with what it must return, both as shown writes them.
func expect(t *testing.T, what, got, want string) {
	t.Helper()
	if got != want {
		t.Errorf("%s: got %s, want %s", what, got, want)
	}
}

// noNumber, noText, noList and noValues are what a call that fails must return.
var (
	noNumber = shown(0, false)
	noText   = shown("", false)
	noList   = shown([]int64{}, false)
	noValues = shown(impl.Values{}, false)
)

// values makes values of a denominator and numerators.
func values(den int64, nums ...int64) impl.Values { return impl.Values{Den: den, Nums: nums} }

// repeated returns a list that has n count times.
func repeated(n int64, count int) []int64 { return slices.Repeat([]int64{n}, count) }

// extremes are numbers around which limits lie, and the ends of int64.
func extremes() []int64 {
	list := []int64{math.MinInt64, math.MinInt64 + 1, math.MaxInt64 - 1, math.MaxInt64}
	for _, n := range []int64{0, 1, 2, 9, 40, 1000, 65521, 1000000, 1000000000} {
		for d := int64(-1); d <= 1; d++ {
			list = append(list, n+d, -n+d)
		}
	}
	slices.Sort(list)
	return slices.Compact(list)
}
