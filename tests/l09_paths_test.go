package tests

import (
	"math"
	"slices"
	"testing"

	"loop.example/g01129/impl"
)

// The tests of this file are for promise 10: paths, and dithering along them.

// hilbertBy returns the Hilbert path of an order, finding each place from the digits of its index, the last one first.
func hilbertBy(order int64) [][]int64 {
	var path [][]int64
	for index := range int64(1) << (2 * order) {
		i, k := int64(0), int64(0)
		for bit := range order {
			h := int64(1) << bit
			switch index >> (2 * bit) & 3 {
			case 0:
				i, k = k, i
			case 1:
				k += h
			case 2:
				i, k = i+h, k+h
			case 3:
				i, k = 2*h-1-k, h-1-i
			}
		}
		path = append(path, row(i, k))
	}
	return path
}

func TestHilbertPaths(t *testing.T) {
	expect(t, "order 0", both(impl.HilbertPath(0)), "[[0 0]] true")
	expect(t, "order 2", both(impl.HilbertPath(2)), "[[0 0] [1 0] [1 1] [0 1] [0 2] [0 3] [1 3] [1 2] [2 2] [2 3] [3 3] [3 2] [3 1] [2 1] [2 0] [3 0]] true")
	for order := range int64(4) {
		path, ok := impl.HilbertPath(order)
		expect(t, "path of "+shown(order), both(path, ok), both(hilbertBy(order), true))
		rows := 1 << order
		expect(t, "is a path", shown(impl.IsPath(picture(square(9, rows, rows)...), path)), "true")
		expect(t, "its ends", shown(path[0], path[len(path)-1]), shown(row(0, 0), row(int64(rows)-1, 0)))
		for n := range len(path) - 1 {
			down, right := path[n+1][0]-path[n][0], path[n+1][1]-path[n][1]
			expect(t, "a step of "+shown(order, n), shown(down*down+right*right), "1")
		}
	}
}

func TestHilbertPathsOfPicturesOfOtherSides(t *testing.T) {
	for order := range int64(4) {
		path, _ := impl.HilbertPath(order)
		for rows := 1; rows <= 12; rows++ {
			for columns := 1; columns <= 12; columns++ {
				want := rows == 1<<order && columns == 1<<order
				p := picture(square(100, rows, columns)...)
				expect(t, "sides "+shown(rows, columns), shown(impl.IsPath(p, path)), shown(want))
				if !want {
					expect(t, "no dots "+shown(rows, columns), three(impl.PathDither(p, path)), noDither)
				}
			}
		}
	}
}

// placesOf returns the places of a picture row by row.
func placesOf(p impl.Picture) [][]int64 {
	var places [][]int64
	for i, list := range p.Rows {
		for k := range list {
			places = append(places, row(int64(i), int64(k)))
		}
	}
	return places
}

// isPathBy crosses off the places of a picture.
func isPathBy(p impl.Picture, path [][]int64) bool {
	open := map[string]bool{}
	for _, place := range placesOf(p) {
		open[shown(place)] = true
	}
	for _, place := range path {
		if !open[shown(place)] {
			return false
		}
		delete(open, shown(place))
	}
	return len(open) == 0
}

// around returns all places of some rows and columns, and those next to them.
func around(rows, columns int64) [][]int64 {
	var places [][]int64
	for i := int64(-1); i <= rows; i++ {
		for k := int64(-1); k <= columns; k++ {
			places = append(places, row(i, k))
		}
	}
	return places
}

func TestAllListsOfPlaces(t *testing.T) {
	for _, sides := range [][2]int{{1, 1}, {1, 2}, {2, 1}, {1, 3}, {3, 1}, {2, 2}} {
		p := picture(square(5, sides[0], sides[1])...)
		places := around(int64(sides[0]), int64(sides[1]))
		found, size := 0, sides[0]*sides[1]
		for count := range min(size+1, 4) + 1 {
			for _, list := range allLists(count, int64(len(places))-1) {
				path := inOrder(places, list)
				is := impl.IsPath(p, path)
				if is {
					found++
				}
				if is != isPathBy(p, path) {
					t.Errorf("%v is a path of %v: got %v", path, p, is)
				}
			}
		}
		expect(t, "paths of "+shown(sides), shown(found), shown(len(allPermutations(size))))
	}
}

// inOrder returns the places of an order of indexes.
func inOrder(places [][]int64, order []int64) [][]int64 {
	var path [][]int64
	for _, n := range order {
		path = append(path, places[n])
	}
	return path
}

// anyPath returns a path of a picture in any order.
func (n *numbers) anyPath(p impl.Picture) [][]int64 {
	places := placesOf(p)
	return inOrder(places, n.anyOrder(len(places)))
}

// replacedPlace returns a path with another place at an index.
func replacedPlace(path [][]int64, n int, place []int64) [][]int64 {
	other := slices.Clone(path)
	other[n] = place
	return other
}

// noPaths returns lists that are nearly a path.
func noPaths(p impl.Picture, path [][]int64) [][][]int64 {
	rows, columns, last := int64(len(p.Rows)), int64(len(p.Rows[0])), len(path)-1
	all := [][][]int64{nil, {}, path[:last], path[1:], append(slices.Clone(path), path[0]), append(slices.Clone(path), row(rows, columns)), append(slices.Clone(path), nil), slices.Concat(path, path), append(slices.Clone(path), square(0, 3000, 2)...)}
	for _, n := range []int{0, last / 2, last} {
		i, k := path[n][0], path[n][1]
		for _, place := range [][]int64{
			nil, {}, {i}, {i, k, 0}, {i, k, i, k}, {i, k, -1}, repeated(0, 3000), {-1, k}, {i, -1}, {rows, k}, {i, columns}, {i + rows, k}, {i, k + columns}, {i - rows, k}, {i, k - columns}, {i - 1, k + columns}, {i + 1, k - columns},
			{i + 1<<32, k}, {i, k + 1<<32}, {i - 1<<32, k}, {i + 1<<8, k}, {math.MinInt64, k}, {i, math.MinInt64}, {math.MaxInt64, k}, {i, math.MaxInt64}, {math.MaxInt64, math.MaxInt64}, {math.MinInt64, math.MinInt64},
		} {
			all = append(all, replacedPlace(path, n, place))
		}
		if last > 0 {
			all = append(all, replacedPlace(path, n, path[(n+1)%(last+1)]), replacedPlace(path, n, path[(n+last)%(last+1)]))
		}
	}
	return all
}

func TestPaths(t *testing.T) {
	rule := numbers(60)
	for _, p := range pictures() {
		for _, path := range [][][]int64{placesOf(p), rule.anyPath(p), rule.anyPath(p)} {
			expect(t, "path of "+shown(p, path), shown(impl.IsPath(p, path)), "true")
			back := slices.Clone(path)
			slices.Reverse(back)
			expect(t, "path back of "+shown(p, path), shown(impl.IsPath(p, back)), "true")
		}
	}
}

func TestListsThatAreNoPathsFail(t *testing.T) {
	rule := numbers(61)
	for i, p := range pictures() {
		path := placesOf(p)
		if i%2 == 0 {
			path = rule.anyPath(p)
		}
		for _, other := range noPaths(p, path) {
			what := shown(p, other)
			expect(t, "no path "+what, shown(impl.IsPath(p, other)), "false")
			expect(t, "no dots "+what, three(impl.PathDither(p, other)), noDither)
		}
	}
}

func TestRowsAndColumnsOfPathsAreNotExchanged(t *testing.T) {
	wide, high := picture(square(4, 2, 3)...), picture(square(4, 3, 2)...)
	expect(t, "wide", shown(impl.IsPath(wide, placesOf(wide)), impl.IsPath(wide, placesOf(high))), "true false")
	expect(t, "high", shown(impl.IsPath(high, placesOf(high)), impl.IsPath(high, placesOf(wide))), "true false")
}

// checkAlong checks the dots of a picture along a path. An error from -127 to 127 is what is left of the tones up to a
// place for just one number of dots, so that these sums leave no choice.
func checkAlong(t *testing.T, p impl.Picture, path [][]int64) {
	t.Helper()
	dots, last, ok := impl.PathDither(p, path)
	expect(t, "dots as many as tones", shown(ok, len(dots)), shown(true, len(p.Rows)))
	left := int64(0)
	for n, place := range path {
		dot := dots[place[0]][place[1]]
		left += p.Rows[place[0]][place[1]] - impl.MaxTone*dot
		expect(t, "dot "+shown(p, path, n), shown(dot == 0 || dot == 1, left >= -127 && left <= 127), "true true")
	}
	expect(t, "last error "+shown(p, path), shown(last), shown(left))
	expect(t, "sum "+shown(p, path), shown(sumOf(flat(p.Rows))), shown(impl.MaxTone*sumOf(flat(dots))+last))
}

func TestPathDither(t *testing.T) {
	rule := numbers(62)
	for _, p := range pictures() {
		for _, path := range [][][]int64{placesOf(p), rule.anyPath(p), rule.anyPath(p)} {
			checkAlong(t, p, path)
		}
	}
}

func TestPathDitherAlongHilbertPaths(t *testing.T) {
	rule := numbers(63)
	for order := range int64(4) {
		path, _ := impl.HilbertPath(order)
		for range 40 {
			checkAlong(t, rule.anyPicture(1<<order, 1<<order), path)
		}
	}
	path, _ := impl.HilbertPath(1)
	expect(t, "100", three(impl.PathDither(picture(row(100, 100), row(100, 100)), path)), "[[0 1] [1 0]] -110 true")
}

func TestNumbersOnPathsForWhichTheDotIsJustOne(t *testing.T) {
	right, left := [][]int64{{0, 0}, {0, 1}}, [][]int64{{0, 1}, {0, 0}}
	for _, test := range []struct {
		first, second int64
		want          string
	}{
		{100, 27, "[[0 0]] 127 true"}, {100, 28, "[[0 1]] -127 true"}, {127, 0, "[[0 0]] 127 true"}, {127, 1, "[[0 1]] -127 true"}, {200, 182, "[[1 0]] 127 true"}, {200, 183, "[[1 1]] -127 true"},
		{128, 254, "[[1 0]] 127 true"}, {128, 255, "[[1 1]] -127 true"}, {128, 0, "[[1 0]] -127 true"}, {127, 255, "[[0 1]] 127 true"}, {0, 0, "[[0 0]] 0 true"}, {255, 255, "[[1 1]] 0 true"},
	} {
		p := picture(row(test.first, test.second))
		expect(t, "to the right "+shown(test), three(impl.PathDither(p, right)), test.want)
		dots, last, ok := impl.PathDither(picture(row(test.second, test.first)), left)
		expect(t, "to the left "+shown(test), three([][]int64{{dots[0][1], dots[0][0]}}, last, ok), test.want)
	}
	expect(t, "one place", three(impl.PathDither(picture(row(100)), [][]int64{{0, 0}})), "[[0]] 100 true")
	for tone := range int64(256) {
		p := picture(row(tone))
		expect(t, "one place "+shown(tone), three(impl.PathDither(p, [][]int64{{0, 0}})), three(impl.DiffuseDither(p, kernel(1), false)))
	}
}

func TestPathsAndLinesOfOneRowAreTheSame(t *testing.T) {
	rule := numbers(64)
	line, _ := impl.KernelOf(impl.KernelLine)
	for columns := 1; columns <= 12; columns++ {
		for range 10 {
			p := rule.anyPicture(1, columns)
			expect(t, "row "+shown(p), three(impl.PathDither(p, placesOf(p))), three(impl.DiffuseDither(p, line, false)))
		}
	}
}
