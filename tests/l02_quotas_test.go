package tests

import (
	"math"
	"math/big"
	"testing"

	"loop.example/g01129/impl"
)

// The tests of this file are for promise 3: quotas, seats by remainders, and the fewest votes.

// noQuotas and noLoss are what QuotasOf and FirstLoss must return if they fail.
var (
	noQuotas = shown([]int64{}, []int64{}, false)
	noLoss   = shown(0, 0, false)
)

// three keeps three results together.
func three[T, U any](first T, second U, ok bool) string { return shown(first, second, ok) }

func TestExamplesOfRemainders(t *testing.T) {
	votes := []int64{6, 6, 2}
	expect(t, "ten", both(impl.RemainderSeats(votes, 10)), "[4 4 2] true")
	expect(t, "eleven", both(impl.RemainderSeats(votes, 11)), "[5 5 1] true")
}

// quotaOf returns the quota of a party.
func quotaOf(votes []int64, seats int64, party int) *big.Rat {
	sum := int64(0)
	for _, v := range votes {
		sum += v
	}
	return big.NewRat(seats*votes[party], sum)
}

// isRoundedQuota reports whether low and high are a quota, rounded down and up.
func isRoundedQuota(quota *big.Rat, low, high int64) bool {
	above := new(big.Rat).Sub(quota, big.NewRat(low, 1))
	if above.Sign() < 0 || above.Cmp(big.NewRat(1, 1)) >= 0 {
		return false
	}
	if above.Sign() == 0 {
		return high == low
	}
	return high == low+1
}

func TestQuotasOf(t *testing.T) {
	for _, votes := range votesOfAllKinds() {
		for seats := int64(0); seats <= impl.MaxSeats; seats++ {
			low, high, ok := impl.QuotasOf(votes, seats)
			expect(t, "lengths", shown(len(low), len(high), ok), shown(len(votes), len(votes), true))
			for i := range votes {
				if !isRoundedQuota(quotaOf(votes, seats, i), low[i], high[i]) {
					t.Errorf("quotas of %v for %d seats: got %v and %v", votes, seats, low, high)
				}
			}
		}
	}
	expect(t, "quotas of 7", three(impl.QuotasOf([]int64{6, 6, 2}, 7)), "[3 3 1] [3 3 1] true")
	expect(t, "quotas of 8", three(impl.QuotasOf([]int64{6, 0, 2}, 5)), "[3 0 1] [4 0 2] true")
	expect(t, "no seats", three(impl.QuotasOf([]int64{6, 0, 2}, 0)), "[0 0 0] [0 0 0] true")
	expect(t, "one party", three(impl.QuotasOf([]int64{6}, 100)), "[100] [100] true")
	expect(t, "limits", three(impl.QuotasOf(repeated(impl.MaxVotes, 12), 100)), shown(repeated(8, 12), repeated(9, 12), true))
}

// byRests gives the seats by remainders with fractions: each seat that remains goes to the greatest rest that is left.
func byRests(votes []int64, seats int64) []int64 {
	list := make([]int64, len(votes))
	rests := make([]*big.Rat, len(votes))
	left := seats
	for i := range votes {
		quota := quotaOf(votes, seats, i)
		list[i] = new(big.Int).Quo(quota.Num(), quota.Denom()).Int64()
		rests[i] = quota.Sub(quota, big.NewRat(list[i], 1))
		left -= list[i]
	}
	for ; left > 0; left-- {
		first := 0
		for i := range rests {
			if rests[i].Cmp(rests[first]) > 0 {
				first = i
			}
		}
		list[first]++
		rests[first] = big.NewRat(-1, 1)
	}
	return list
}

func TestRemainderSeats(t *testing.T) {
	for _, votes := range votesOfAllKinds() {
		for seats := int64(0); seats <= impl.MaxSeats; seats++ {
			expect(t, shown("votes", votes, "seats", seats), both(impl.RemainderSeats(votes, seats)), both(byRests(votes, seats), true))
		}
	}
	for code := int64(1); code < 6*6*6*6; code++ {
		votes := []int64{code % 6, code / 6 % 6, code / 36 % 6, code / 216}
		for seats := int64(0); seats <= 7; seats++ {
			expect(t, shown("votes", votes, "seats", seats), both(impl.RemainderSeats(votes, seats)), both(byRests(votes, seats), true))
		}
	}
}

func TestEqualRestsOfQuotas(t *testing.T) {
	for _, c := range []struct {
		votes []int64
		seats int64
		want  string
	}{
		{[]int64{1, 1}, 1, "[1 0] true"}, {[]int64{1, 1, 1}, 1, "[1 0 0] true"}, {[]int64{1, 1, 1}, 2, "[1 1 0] true"}, {[]int64{1, 1, 1, 1}, 6, "[2 2 1 1] true"},
		{[]int64{1, 3}, 2, "[1 1] true"}, {[]int64{3, 1}, 2, "[2 0] true"}, {[]int64{1, 0, 3}, 2, "[1 0 1] true"}, {[]int64{2, 5, 5}, 1, "[0 1 0] true"}, {[]int64{0, 1, 1}, 1, "[0 1 0] true"},
		{[]int64{0, 0, 1}, 100, "[0 0 100] true"}, {[]int64{1, 1, 1}, 0, "[0 0 0] true"},
	} {
		expect(t, shown("votes", c.votes, "seats", c.seats), both(impl.RemainderSeats(c.votes, c.seats)), c.want)
	}
	expect(t, "twelve parties", both(impl.RemainderSeats(repeated(5, 12), 100)), both(append(repeated(9, 4), repeated(8, 8)...), true))
}

// isWithinQuotas tells on which sides of its quotas a list stays: not below them rounded down, not above them rounded up.
func isWithinQuotas(votes, list []int64, seats int64) (isNotBelow, isNotAbove bool) {
	isNotBelow, isNotAbove = true, true
	for i, n := range list {
		quota := quotaOf(votes, seats, i)
		isNotBelow = isNotBelow && big.NewRat(n+1, 1).Cmp(quota) > 0
		isNotAbove = isNotAbove && big.NewRat(n-1, 1).Cmp(quota) < 0
	}
	return isNotBelow, isNotAbove
}

func TestSeatsStayOnTheRightSideOfTheQuotas(t *testing.T) {
	for _, votes := range votesOfAllKinds() {
		for seats := int64(0); seats <= impl.MaxSeats; seats++ {
			what := shown(votes, seats)
			low, _ := impl.SeatsBy(jefferson, votes, seats)
			if isNotBelow, _ := isWithinQuotas(votes, low, seats); !isNotBelow {
				t.Errorf("Jefferson is below a quota: %s", what)
			}
			high, _ := impl.SeatsBy(adams, votes, seats)
			if _, isNotAbove := isWithinQuotas(votes, high, seats); !isNotAbove {
				t.Errorf("Adams is above a quota: %s", what)
			}
			list, _ := impl.RemainderSeats(votes, seats)
			expect(t, "remainders "+what, both(impl.OutsideQuotas(votes, list)), "[] true")
		}
	}
}

func TestOutsideQuotas(t *testing.T) {
	for _, c := range []struct {
		votes, list []int64
		want        string
	}{
		{[]int64{6, 6, 2}, []int64{5, 2, 0}, "[0 1 2] true"}, {[]int64{6, 6, 2}, []int64{3, 3, 1}, "[] true"}, {[]int64{6, 6, 2}, []int64{4, 3, 0}, "[0 2] true"},
		{[]int64{6, 6, 2}, []int64{4, 3, 1}, "[] true"}, {[]int64{6, 6, 2}, []int64{3, 4, 2}, "[] true"}, {[]int64{6, 6, 2}, []int64{3, 3, 3}, "[2] true"}, {[]int64{6, 6, 2}, []int64{0, 0, 0}, "[] true"},
		{[]int64{0, 1}, []int64{1, 0}, "[0 1] true"}, {[]int64{0, 1}, []int64{0, 100}, "[] true"}, {[]int64{0, 1}, []int64{1, 99}, "[0 1] true"}, {[]int64{9}, []int64{100}, "[] true"},
		{[]int64{1, 1}, []int64{50, 50}, "[] true"}, {[]int64{1, 1}, []int64{51, 49}, "[0 1] true"}, {[]int64{1, 1}, []int64{51, 48}, "[0 1] true"}, {[]int64{1, 1}, []int64{50, 49}, "[] true"},
		{[]int64{90, 1, 1, 1}, []int64{100, 0, 0, 0}, "[0 1 2 3] true"}, {[]int64{10, 5, 5, 5}, []int64{5, 1, 1, 1}, "[0] true"},
	} {
		expect(t, "outside "+shown(c.votes, c.list), both(impl.OutsideQuotas(c.votes, c.list)), c.want)
	}
	for _, list := range wrongSeats() {
		expect(t, "wrong list "+shown(list), both(impl.OutsideQuotas([]int64{7, 7}, list)), noList)
	}
}

func TestOutsideQuotasOfAllSmallLists(t *testing.T) {
	for code := int64(1); code < 5*5*5; code++ {
		votes := []int64{code % 5, code / 5 % 5, code / 25}
		for other := int64(0); other < 5*5*5; other++ {
			list := []int64{other % 5, other / 5 % 5, other / 25}
			outside := []int64{}
			for i := range list {
				one, two := []int64{votes[i]}, []int64{list[i]}
				rest := votes[0] + votes[1] + votes[2] - votes[i]
				isNotBelow, isNotAbove := isWithinQuotas(append(one, rest), two, list[0]+list[1]+list[2])
				if !isNotBelow || !isNotAbove {
					outside = append(outside, int64(i))
				}
			}
			expect(t, "outside "+shown(votes, list), both(impl.OutsideQuotas(votes, list)), both(outside, true))
		}
	}
}

// lossOf looks for the first loss among the seats that byRests gives.
func lossOf(votes []int64) string {
	before := byRests(votes, 0)
	for seats := int64(0); seats < impl.MaxSeats; seats++ {
		next := byRests(votes, seats+1)
		for i := range next {
			if next[i] < before[i] {
				return three(seats, i, true)
			}
		}
		before = next
	}
	return noLoss
}

func TestFirstLoss(t *testing.T) {
	losses := map[string]bool{}
	for _, votes := range votesOfAllKinds() {
		want := lossOf(votes)
		losses[want] = true
		expect(t, "loss "+shown(votes), three(impl.FirstLoss(votes)), want)
	}
	for code := int64(1); code < 8*8*8; code++ {
		votes := []int64{code % 8, code / 8 % 8, code / 64}
		want := lossOf(votes)
		losses[want] = true
		expect(t, "loss "+shown(votes), three(impl.FirstLoss(votes)), want)
	}
	if len(losses) < 6 {
		t.Errorf("the votes have few different losses: %v", losses)
	}
}

func TestFirstLossOfKnownVotes(t *testing.T) {
	for _, c := range []struct {
		votes []int64
		want  string
	}{
		{[]int64{1}, noLoss}, {[]int64{impl.MaxVotes, impl.MaxVotes}, noLoss}, {[]int64{1, impl.MaxVotes}, noLoss}, {[]int64{0, 5, 0}, noLoss}, {repeated(1, 12), noLoss},
		{[]int64{6, 6, 2}, "3 2 true"}, {[]int64{2, 6, 6}, "3 0 true"}, {[]int64{6, 0, 2, 6}, "3 2 true"},
		// The loss is from 99 to 100 seats, or would be from 100 to 101, which do not count.
		{[]int64{194, 1, 3}, "99 1 true"}, {[]int64{195, 3, 1}, "99 2 true"}, {[]int64{196, 1, 3}, noLoss}, {[]int64{193, 5, 3}, noLoss},
	} {
		expect(t, "loss "+shown(c.votes), three(impl.FirstLoss(c.votes)), c.want)
	}
}

// replaced returns votes with n for a party.
func replaced(votes []int64, party, n int64) []int64 {
	changed := append([]int64{}, votes...)
	changed[party] = n
	return changed
}

// reaches reports whether a party has goal seats with n votes, for votes that are valid with them.
func reaches(method int64, votes []int64, party, goal, n int64) bool {
	changed := replaced(votes, party, n)
	if !impl.ValidVotes(changed) {
		return false
	}
	list, _, _ := oneByOne(method, changed, impl.MaxSeats)
	return list[party] >= goal
}

func TestFewestForIsEnoughAndOneLessIsNot(t *testing.T) {
	for _, votes := range votesOfAllKinds() {
		for _, method := range methods {
			for _, goal := range []int64{0, 1, 2, 34, 50, 99, 100} {
				party := goal % int64(len(votes))
				what := shown("method", method, "votes", votes, "party", party, "goal", goal)
				n, ok := impl.FewestFor(method, votes, party, goal)
				if !ok {
					expect(t, "zero of "+what, shown(n), "0")
					n = impl.MaxVotes + 1
				}
				if ok && !reaches(method, votes, party, goal, n) || n > 0 && reaches(method, votes, party, goal, n-1) {
					t.Errorf("fewest %s: got %d, %v", what, n, ok)
				}
			}
		}
	}
}

func TestFewestForIsTheFirstThatReaches(t *testing.T) {
	for _, votes := range [][]int64{{1, 0, 0}, {2, 1, 0}, {1, 1, 1}, {0, 2, 2}, {2, 0, 1}, {0, 1, 0}} {
		for _, method := range methods {
			fewest := repeated(-1, impl.MaxSeats+1)
			for n := int64(0); n <= 500; n++ {
				list, ok := impl.SeatsBy(method, replaced(votes, 1, n), impl.MaxSeats)
				for goal := int64(0); ok && goal <= list[1]; goal++ {
					if fewest[goal] < 0 {
						fewest[goal] = n
					}
				}
			}
			for goal, n := range fewest {
				want := both(n, true)
				if n < 0 {
					want = noNumber
				}
				expect(t, shown("fewest", method, votes, goal), both(impl.FewestFor(method, votes, 1, int64(goal))), want)
			}
		}
	}
}

func TestFewestForOfKnownVotes(t *testing.T) {
	for _, c := range []struct {
		method      int64
		votes       []int64
		party, goal int64
		want        string
	}{
		{jefferson, []int64{0, 100}, 0, 1, "1 true"}, {jefferson, []int64{0, 100}, 0, 50, "99 true"}, {jefferson, []int64{0, 1000000}, 0, 60, noNumber},
		// The first one of equal claims wins, so the second party needs more.
		{jefferson, []int64{100, 0}, 1, 50, "99 true"}, {jefferson, []int64{100, 0}, 1, 51, "103 true"}, {jefferson, []int64{0, 100}, 0, 51, "102 true"},
		{jefferson, []int64{0, 1000000}, 0, 50, "980393 true"}, {jefferson, []int64{0, 1000000}, 0, 51, noNumber}, {adams, []int64{0, 1000000}, 0, 1, "1 true"},
		// All 12 parties have at most MaxVotes, so the most that one of them can have are the seats of equal parties.
		{adams, repeated(impl.MaxVotes, 12), 0, 9, "1000000 true"}, {adams, repeated(impl.MaxVotes, 12), 11, 9, noNumber}, {webster, repeated(impl.MaxVotes, 12), 0, 10, noNumber},
	} {
		expect(t, "fewest "+shown(c.method, c.votes, c.party, c.goal), both(impl.FewestFor(c.method, c.votes, c.party, c.goal)), c.want)
	}
}

func TestFewestForWhereNoVotesAreInvalid(t *testing.T) {
	for _, method := range methods {
		for _, goal := range []int64{0, 1, 99, 100} {
			expect(t, "one party", both(impl.FewestFor(method, []int64{7}, 0, goal)), "1 true")
			expect(t, "the only party with votes", both(impl.FewestFor(method, []int64{0, 7, 0}, 1, goal)), "1 true")
		}
		expect(t, "goal 0", both(impl.FewestFor(method, []int64{7, 9}, 0, 0)), "0 true")
		expect(t, "goal 0 of one without votes", both(impl.FewestFor(method, []int64{0, 9}, 0, 0)), "0 true")
		expect(t, "no votes at all", both(impl.FewestFor(method, []int64{0, 0}, 0, 0)), noNumber)
		expect(t, "all seats", both(impl.FewestFor(adams, []int64{7, 9}, 0, 100)), noNumber)
	}
}

func TestQuotasOfInvalidArgumentsFail(t *testing.T) {
	for _, votes := range invalidVotes() {
		zeros := repeated(0, len(votes))
		expect(t, "quotas "+shown(votes), three(impl.QuotasOf(votes, 3)), noQuotas)
		expect(t, "remainders "+shown(votes), both(impl.RemainderSeats(votes, 3)), noList)
		expect(t, "outside "+shown(votes), both(impl.OutsideQuotas(votes, zeros)), noList)
		expect(t, "loss "+shown(votes), three(impl.FirstLoss(votes)), noLoss)
		for _, method := range methods {
			expect(t, "fewest "+shown(votes), both(impl.FewestFor(method, votes, 0, 1)), noNumber)
		}
	}
	good := []int64{5, 3, 1}
	for _, seats := range []int64{-1, -100, 101, math.MinInt64, math.MaxInt64} {
		expect(t, "quotas "+shown(seats), three(impl.QuotasOf(good, seats)), noQuotas)
		expect(t, "remainders "+shown(seats), both(impl.RemainderSeats(good, seats)), noList)
	}
}

func TestFewestForOfInvalidArgumentsFails(t *testing.T) {
	good := []int64{5, 3, 1}
	for _, method := range methods {
		for _, party := range []int64{-1, 3, 4, 12, math.MinInt64, math.MaxInt64} {
			expect(t, "party", both(impl.FewestFor(method, good, party, 1)), noNumber)
			expect(t, "party", both(impl.FewestFor(method, good, party, 0)), noNumber)
		}
		for _, goal := range []int64{-1, 101, math.MinInt64, math.MaxInt64} {
			expect(t, "goal", both(impl.FewestFor(method, good, 1, goal)), noNumber)
			expect(t, "goal", both(impl.FewestFor(method, []int64{5}, 0, goal)), noNumber)
		}
	}
	for _, method := range noMethods {
		expect(t, "method", both(impl.FewestFor(method, good, 1, 1)), noNumber)
		expect(t, "method", both(impl.FewestFor(method, good, 1, 0)), noNumber)
	}
}
