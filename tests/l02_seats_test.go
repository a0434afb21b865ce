package tests

import (
	"math"
	"math/big"
	"slices"
	"testing"

	"loop.example/g01129/impl"
)

// The tests of this file are for promise 3: seats by the four methods, and their ties.

const (
	adams     = impl.MethodAdams
	hill      = impl.MethodHill
	webster   = impl.MethodWebster
	jefferson = impl.MethodJefferson
)

// methods are the four methods, and noMethods are numbers that are none of them.
var (
	methods   = []int64{adams, hill, webster, jefferson}
	noMethods = []int64{-1, 4, 5, math.MinInt64, math.MaxInt64}
)

// noTies is what TiedSeats must return if it fails.
var noTies = shown([]int64{}, 0, false)

// tie keeps the results of TiedSeats together.
func tie(parties []int64, seats int64, ok bool) string { return shown(parties, seats, ok) }

// price is a worth as the document tells it: squared, so that it is a fraction with each method, and apart from
// those that are greater than every fraction because the divisor is 0.
type price struct {
	isAbove bool
	square  *big.Rat
}

// priceOf returns the worth of one more seat, from the divisor's square, for v votes and k seats.
func priceOf(method, v, k int64) price {
	var divisor *big.Rat
	switch method {
	case adams:
		divisor = big.NewRat(k*k, 1)
	case hill:
		divisor = big.NewRat(k*(k+1), 1)
	case webster:
		divisor = big.NewRat((2*k+1)*(2*k+1), 4)
	default:
		divisor = big.NewRat((k+1)*(k+1), 1)
	}
	votes := big.NewRat(v*v, 1)
	if v == 0 || divisor.Sign() == 0 {
		return price{v > 0, votes}
	}
	return price{false, votes.Quo(votes, divisor)}
}

// compare compares two worths.
func (p price) compare(q price) int {
	if p.isAbove != q.isAbove {
		if p.isAbove {
			return 1
		}
		return -1
	}
	return p.square.Cmp(q.square)
}

// best returns the parties for which one more seat is worth most, and this worth.
func best(method int64, votes, list []int64) ([]int64, price) {
	var parties []int64
	var most price
	for i, v := range votes {
		p := priceOf(method, v, list[i])
		if len(parties) > 0 && p.compare(most) < 0 {
			continue
		}
		if len(parties) > 0 && p.compare(most) > 0 {
			parties = parties[:0]
		}
		parties, most = append(parties, int64(i)), p
	}
	return parties, most
}

// oneByOne gives seats one after another, and keeps the ties of the last one.
func oneByOne(method int64, votes []int64, seats int64) (list, tied []int64, given int64) {
	list = make([]int64, len(votes))
	var last price
	for s := int64(0); s < seats; s++ {
		parties, most := best(method, votes, list)
		if s == 0 || most.compare(last) != 0 {
			tied, given, last = parties, 0, most
		}
		list[parties[0]]++
		given++
	}
	return list, tied, given
}

// votesOfAllKinds are ordinary votes, ones with ties, with parties without votes, and at the limits.
func votesOfAllKinds() [][]int64 {
	ascending := make([]int64, impl.MaxParties)
	near := make([]int64, impl.MaxParties)
	for i := range ascending {
		ascending[i] = int64(i)
		near[i] = impl.MaxVotes - int64(i)
	}
	return [][]int64{
		{1}, {impl.MaxVotes}, {0, 1}, {1, 0}, {0, 0, 7}, {0, 5, 0, 5, 0}, {1, 1}, {6, 6, 2}, {5, 3, 1}, {4, 2, 1}, {6, 1}, {1, 6}, {6, 1, 1},
		{10, 1, 10}, {3, 1}, {12, 6, 4, 3}, {2, 4, 6, 8, 10, 12}, {47, 16, 159, 120, 77, 81}, {impl.MaxVotes, 1}, {1, impl.MaxVotes, 0},
		{impl.MaxVotes, impl.MaxVotes, impl.MaxVotes}, {999999, 1000000, 999998}, {707107, 1000000}, {408248, 1000000}, {1000000, 577350},
		repeated(1, impl.MaxParties), repeated(impl.MaxVotes, impl.MaxParties), ascending, near, append(repeated(0, 11), 1),
	}
}

func TestLimitsOfSeats(t *testing.T) {
	expect(t, "limits", shown([]int64{impl.MaxParties, impl.MaxVotes, impl.MaxSeats}), "[12 1000000 100]")
	expect(t, "methods", shown(methods), "[0 1 2 3]")
}

func TestExamplesOfSeats(t *testing.T) {
	votes := []int64{5, 3, 1}
	expect(t, "Adams", both(impl.SeatsBy(impl.MethodAdams, votes, 3)), "[1 1 1] true")
	expect(t, "Jefferson", both(impl.SeatsBy(impl.MethodJefferson, votes, 3)), "[2 1 0] true")
	expect(t, "Webster", both(impl.SeatsBy(impl.MethodWebster, votes, 3)), "[2 1 0] true")
}

// invalidVotes are lists that are no votes.
func invalidVotes() [][]int64 {
	return [][]int64{
		nil, {}, {0}, {0, 0}, repeated(0, 12), {-1}, {-1, 5}, {5, -1}, {0, 0, -1}, {impl.MaxVotes + 1}, {1, impl.MaxVotes + 1}, {math.MaxInt64},
		{math.MinInt64}, {math.MinInt64, 1}, {math.MaxInt64, math.MaxInt64, 2}, {5, math.MinInt64, math.MaxInt64}, repeated(1, 13), append(repeated(0, 12), 1), repeated(1, 3000),
	}
}

func TestValidVotes(t *testing.T) {
	for _, votes := range votesOfAllKinds() {
		expect(t, "valid "+shown(votes), shown(impl.ValidVotes(votes)), "true")
	}
	for _, votes := range invalidVotes() {
		expect(t, "valid "+shown(votes), shown(impl.ValidVotes(votes)), "false")
	}
}

func TestSeatsAndTiesAreThoseOfGivingOneByOne(t *testing.T) {
	for _, votes := range votesOfAllKinds() {
		for _, method := range methods {
			for _, seats := range []int64{0, 1, 2, 3, 4, 5, 6, 7, 8, 9, 10, 11, 12, 13, 14, 23, 24, 25, 50, 99, 100} {
				what := shown("method", method, "votes", votes, "seats", seats)
				list, tied, given := oneByOne(method, votes, seats)
				expect(t, what, both(impl.SeatsBy(method, votes, seats)), both(list, true))
				want := noTies
				if seats > 0 {
					want = tie(tied, given, true)
				}
				expect(t, "ties of "+what, tie(impl.TiedSeats(method, votes, seats)), want)
			}
		}
	}
}

func TestSeatsOfAllSmallVotes(t *testing.T) {
	for code := int64(1); code < 7*7*7; code++ {
		votes := []int64{code % 7, code / 7 % 7, code / 49}
		for _, method := range methods {
			for seats := int64(1); seats <= 9; seats++ {
				what := shown("method", method, "votes", votes, "seats", seats)
				list, tied, given := oneByOne(method, votes, seats)
				expect(t, what, both(impl.SeatsBy(method, votes, seats)), both(list, true))
				expect(t, "ties of "+what, tie(impl.TiedSeats(method, votes, seats)), tie(tied, given, true))
			}
		}
	}
}

func TestSeatsGrowOneByOne(t *testing.T) {
	for _, votes := range votesOfAllKinds() {
		for _, method := range methods {
			before := repeated(0, len(votes))
			for seats := int64(0); seats <= impl.MaxSeats; seats++ {
				list, ok := impl.SeatsBy(method, votes, seats)
				more := int64(0)
				for i := range before {
					more += list[i] - before[i]
					if list[i] < before[i] || votes[i] == 0 && list[i] > 0 {
						t.Errorf("method %d, votes %v, %d seats: %v behind %v", method, votes, seats, list, before)
					}
				}
				expect(t, "one more seat", both(more, ok), both(min(seats, 1), true))
				expect(t, "arises "+shown(method, votes, list), shown(impl.IsSeatsBy(method, votes, list)), "true")
				before = list
			}
		}
	}
}

func TestSeatsOfKnownVotes(t *testing.T) {
	for _, c := range []struct {
		method int64
		votes  []int64
		seats  int64
		want   string
	}{
		{hill, []int64{5, 3, 1}, 3, "[1 1 1] true"},
		{adams, []int64{5, 3, 1}, 1, "[1 0 0] true"}, {adams, []int64{1, 3, 5}, 2, "[0 1 1] true"},
		{hill, []int64{1, 3, 5}, 1, "[0 0 1] true"}, {hill, []int64{1, 3, 5}, 2, "[0 1 1] true"}, {hill, []int64{1, impl.MaxVotes}, 2, "[1 1] true"},
		{adams, []int64{1, 0, impl.MaxVotes}, 100, "[1 0 99] true"}, {hill, []int64{1, 0, impl.MaxVotes}, 100, "[1 0 99] true"},
		{webster, []int64{1, 0, impl.MaxVotes}, 100, "[0 0 100] true"}, {jefferson, []int64{1, 0, impl.MaxVotes}, 100, "[0 0 100] true"},
		{adams, []int64{7, 7, 7}, 2, "[1 1 0] true"}, {hill, []int64{7, 7, 7}, 2, "[1 1 0] true"}, {webster, []int64{7, 7, 7}, 4, "[2 1 1] true"}, {jefferson, []int64{7, 7, 7}, 5, "[2 2 1] true"},
	} {
		expect(t, shown("method", c.method, "votes", c.votes, "seats", c.seats), both(impl.SeatsBy(c.method, c.votes, c.seats)), c.want)
	}
	for _, method := range methods {
		expect(t, "one party", both(impl.SeatsBy(method, []int64{3}, 100)), "[100] true")
		expect(t, "no seats", both(impl.SeatsBy(method, []int64{3, 0, 9}, 0)), "[0 0 0] true")
		expect(t, "twelve parties", both(impl.SeatsBy(method, repeated(9, 12), 100)), both(append(repeated(9, 4), repeated(8, 8)...), true))
	}
}

func TestKnownTies(t *testing.T) {
	for _, c := range []struct {
		method int64
		votes  []int64
		seats  int64
		want   string
	}{
		{jefferson, []int64{4, 2, 1}, 2, "[0 1] 1 true"}, {jefferson, []int64{4, 2, 1}, 3, "[0 1] 2 true"},
		{jefferson, []int64{4, 2, 1}, 5, "[0 1 2] 1 true"}, {jefferson, []int64{4, 2, 1}, 6, "[0 1 2] 2 true"}, {jefferson, []int64{4, 2, 1}, 7, "[0 1 2] 3 true"},
		// Worths with a divisor of 0 are equal for equal votes only.
		{adams, []int64{4, 2, 4}, 1, "[0 2] 1 true"}, {adams, []int64{4, 2, 4}, 2, "[0 2] 2 true"}, {adams, []int64{4, 2, 4}, 3, "[1] 1 true"},
		{adams, []int64{4, 2}, 3, "[0] 1 true"}, {adams, []int64{4, 2}, 4, "[0 1] 1 true"}, {adams, []int64{4, 2}, 5, "[0 1] 2 true"},
		{hill, []int64{4, 2, 4, 4}, 2, "[0 2 3] 2 true"}, {hill, []int64{4, 2, 4, 4}, 4, "[1] 1 true"},
		{webster, []int64{3, 1}, 2, "[0 1] 1 true"}, {webster, []int64{3, 1}, 3, "[0 1] 2 true"}, {webster, []int64{15, 5, 3}, 3, "[0 1] 2 true"}, {webster, []int64{15, 5, 3}, 4, "[0 2] 1 true"},
		// 6 over the root of 8 times 9 is 1 over the root of 1 times 2.
		{hill, []int64{6, 1}, 10, "[0 1] 1 true"}, {hill, []int64{6, 1}, 11, "[0 1] 2 true"}, {hill, []int64{1, 6}, 10, "[0 1] 1 true"}, {hill, []int64{6, 1, 1}, 11, "[0 1 2] 1 true"},
		{hill, []int64{6, 1, 1}, 12, "[0 1 2] 2 true"}, {hill, []int64{6, 1, 1}, 13, "[0 1 2] 3 true"}, {hill, []int64{35, 1}, 51, "[0 1] 1 true"}, {hill, []int64{35, 1}, 52, "[0 1] 2 true"},
		{hill, []int64{999999, 1, 166666}, 4, "[0] 1 true"},
	} {
		expect(t, shown("method", c.method, "votes", c.votes, "seats", c.seats), tie(impl.TiedSeats(c.method, c.votes, c.seats)), c.want)
	}
	for _, method := range methods {
		expect(t, "one party", tie(impl.TiedSeats(method, []int64{3}, 100)), "[0] 1 true")
		expect(t, "no votes beside", tie(impl.TiedSeats(method, []int64{0, 3, 0}, 1)), "[1] 1 true")
		expect(t, "all equal", tie(impl.TiedSeats(method, repeated(1, 12), 100)), "[0 1 2 3 4 5 6 7 8 9 10 11] 4 true")
		expect(t, "no seats", tie(impl.TiedSeats(method, []int64{3, 3}, 0)), noTies)
	}
}

func TestWorthsOfHillThatDifferLittle(t *testing.T) {
	for k := int64(1); k <= 6; k++ {
		for j := k + 1; j <= 40; j++ {
			// The greatest votes v of the first party for which v / root(k (k+1)) is at most 1000000 / root(j (j+1)).
			square := new(big.Int).Div(new(big.Int).Mul(big.NewInt(impl.MaxVotes*impl.MaxVotes), big.NewInt(k*(k+1))), big.NewInt(j*(j+1)))
			v := new(big.Int).Sqrt(square).Int64()
			for _, first := range []int64{v - 1, v, v + 1} {
				votes := []int64{first, impl.MaxVotes}
				for seats := k + j; seats <= k+j+2; seats++ {
					what := shown("votes", votes, "seats", seats)
					list, tied, given := oneByOne(hill, votes, seats)
					expect(t, what, both(impl.SeatsBy(hill, votes, seats)), both(list, true))
					expect(t, "ties of "+what, tie(impl.TiedSeats(hill, votes, seats)), tie(tied, given, true))
				}
			}
		}
	}
}

// anyWay adds to found the lists that arise if ties are decided in all ways.
func anyWay(method int64, votes, list []int64, seats int64, found map[string]bool) {
	if seats == 0 {
		found[shown(list)] = true
		return
	}
	parties, _ := best(method, votes, list)
	for _, party := range parties {
		next := slices.Clone(list)
		next[party]++
		anyWay(method, votes, next, seats-1, found)
	}
}

func TestListsAriseByDecidingTiesInSomeWay(t *testing.T) {
	for code := int64(1); code < 4*4*4; code++ {
		votes := []int64{code % 4 * 2, code / 4 % 4 * 2, code / 16 * 2}
		for _, method := range methods {
			for seats := int64(0); seats <= 6; seats++ {
				found := map[string]bool{}
				anyWay(method, votes, repeated(0, 3), seats, found)
				for a := int64(0); a <= seats; a++ {
					for b := int64(0); a+b <= seats; b++ {
						list := []int64{a, b, seats - a - b}
						expect(t, "arises "+shown(method, votes, list), shown(impl.IsSeatsBy(method, votes, list)), shown(found[shown(list)]))
					}
				}
			}
		}
	}
}

func TestTiedPartiesMayHaveTheLastSeatsJustAsWell(t *testing.T) {
	for _, votes := range votesOfAllKinds() {
		for _, method := range methods {
			for _, seats := range []int64{1, 2, 5, 9, 17, 100} {
				tied, given, _ := impl.TiedSeats(method, votes, seats)
				list, _ := impl.SeatsBy(method, votes, seats-given)
				// The last ones of the tied parties have the seats that the first ones are given.
				for _, party := range tied[int64(len(tied))-given:] {
					list[party]++
				}
				expect(t, "arises "+shown(method, votes, list), shown(impl.IsSeatsBy(method, votes, list)), "true")
			}
		}
	}
}

func TestIsSeatsBy(t *testing.T) {
	for _, c := range []struct {
		method      int64
		votes, list []int64
		want        bool
	}{
		{jefferson, []int64{5, 3, 1}, []int64{2, 1, 0}, true}, {jefferson, []int64{5, 3, 1}, []int64{1, 1, 1}, false}, {jefferson, []int64{2, 2}, []int64{0, 1}, true},
		{adams, []int64{5, 3, 1}, []int64{1, 1, 1}, true}, {adams, []int64{5, 3, 1}, []int64{2, 1, 0}, false}, {adams, []int64{5, 3, 1}, []int64{0, 1, 0}, false},
		{hill, []int64{5, 3, 1}, []int64{0, 0, 1}, false}, {hill, []int64{5, 5, 1}, []int64{0, 1, 0}, true}, {hill, []int64{6, 1}, []int64{9, 1}, true}, {hill, []int64{6, 1}, []int64{8, 2}, true},
		{hill, []int64{6, 1}, []int64{10, 1}, false}, {hill, []int64{6, 1}, []int64{7, 2}, false}, {webster, []int64{3, 1}, []int64{1, 1}, true}, {webster, []int64{3, 1}, []int64{2, 0}, true},
		{webster, []int64{3, 1}, []int64{3, 0}, false}, {adams, []int64{0, 3}, []int64{1, 0}, false}, {adams, []int64{0, 3}, []int64{1, 3}, false}, {adams, []int64{0, 3}, []int64{0, 3}, true},
	} {
		expect(t, "arises "+shown(c.method, c.votes, c.list), shown(impl.IsSeatsBy(c.method, c.votes, c.list)), shown(c.want))
	}
	for _, method := range methods {
		one := []int64{7}
		expect(t, "one party", shown(impl.IsSeatsBy(method, one, []int64{0}), impl.IsSeatsBy(method, one, []int64{100}), impl.IsSeatsBy(method, one, []int64{101})), "true true false")
		two := []int64{7, 7}
		expect(t, "sum of a list", shown(impl.IsSeatsBy(method, two, []int64{50, 50}), impl.IsSeatsBy(method, two, []int64{51, 50})), "true false")
		expect(t, "no seats", shown(impl.IsSeatsBy(method, two, []int64{0, 0}), impl.IsSeatsBy(method, []int64{0, 7}, []int64{0, 0})), "true true")
		for _, list := range wrongSeats() {
			expect(t, "wrong list "+shown(list), shown(impl.IsSeatsBy(method, two, list)), "false")
		}
	}
}

// wrongSeats are no lists of seats for two parties.
func wrongSeats() [][]int64 {
	return [][]int64{
		nil, {}, {0}, {1}, {0, 0, 0}, {1, 1, 0}, {-1, 1}, {1, -1}, {-1, 0}, {0, -1}, {-1, -1}, {51, 50}, {50, 51}, {101, 0}, {0, 101}, {101, -1}, {200, -100},
		{math.MaxInt64, 1}, {math.MinInt64, 1}, {math.MaxInt64, math.MaxInt64}, {math.MinInt64, math.MinInt64}, {math.MaxInt64, math.MinInt64}, repeated(0, 12),
	}
}

func TestSeatsOfInvalidArgumentsFail(t *testing.T) {
	good := []int64{5, 3, 1}
	for _, method := range append(noMethods, methods...) {
		for _, votes := range invalidVotes() {
			zeros := repeated(0, len(votes))
			expect(t, "seats "+shown(votes), both(impl.SeatsBy(method, votes, 3)), noList)
			expect(t, "ties "+shown(votes), tie(impl.TiedSeats(method, votes, 3)), noTies)
			expect(t, "arises "+shown(votes), shown(impl.IsSeatsBy(method, votes, zeros)), "false")
		}
		for _, seats := range []int64{-1, -100, 101, math.MinInt64, math.MaxInt64} {
			expect(t, "seats "+shown(seats), both(impl.SeatsBy(method, good, seats)), noList)
			expect(t, "ties "+shown(seats), tie(impl.TiedSeats(method, good, seats)), noTies)
		}
	}
	for _, method := range noMethods {
		expect(t, "method", both(impl.SeatsBy(method, good, 3)), noList)
		expect(t, "method", both(impl.SeatsBy(method, good, 0)), noList)
		expect(t, "method", tie(impl.TiedSeats(method, good, 3)), noTies)
		expect(t, "method", shown(impl.IsSeatsBy(method, good, []int64{2, 1, 0}), impl.IsSeatsBy(method, good, []int64{0, 0, 0})), "false false")
	}
}
