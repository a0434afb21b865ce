package tests

import (
	"math"
	"math/big"
	"slices"
	"testing"

	"loop.example/g01129/impl"
)

// The tests of this file are for promise 10: pictures, masks, and dithering with masks.

// picture makes a picture of rows.
func picture(rows ...[]int64) impl.Picture { return impl.Picture{Rows: rows} }

func TestExamplesOfDithering(t *testing.T) {
	mask, ok := impl.DoublingMask(1)
	expect(t, "mask", both(mask, ok), "[[0 2] [3 1]] true")
	expect(t, "dots at the numbers 0 and 1", both(impl.MaskDither(picture(row(128, 128), row(128, 128)), mask)), "[[1 0] [0 1]] true")
	expect(t, "path", both(impl.HilbertPath(1)), "[[0 0] [0 1] [1 1] [1 0]] true")
}

// anyPicture returns a picture with tones that differ much or little.
func (n *numbers) anyPicture(rows, columns int) impl.Picture {
	low := n.next(0, impl.MaxTone)
	high := n.next(low, impl.MaxTone)
	return picture(inRows(n.list(rows*columns, low, high), columns)...)
}

// evenPictures are pictures of one tone: of one place, one row, one column, and MaxPicture rows and columns.
func evenPictures() []impl.Picture {
	var all []impl.Picture
	for _, tone := range []int64{0, 1, 63, 126, 127, 128, 129, 254, impl.MaxTone} {
		for _, sides := range [][2]int{{1, 1}, {1, 2}, {2, 1}, {1, 12}, {12, 1}, {3, 5}, {12, 12}} {
			all = append(all, picture(square(tone, sides[0], sides[1])...))
		}
	}
	return all
}

// pictures are pictures of all kinds.
func pictures() []impl.Picture {
	rule := numbers(51)
	all := evenPictures()
	for _, sides := range [][2]int{{1, 1}, {1, 3}, {3, 1}, {1, 12}, {12, 1}, {2, 12}, {12, 2}, {12, 12}, {11, 12}, {12, 11}} {
		for range 4 {
			all = append(all, rule.anyPicture(sides[0], sides[1]))
		}
	}
	for range 100 {
		all = append(all, rule.anyPicture(int(rule.next(1, 12)), int(rule.next(1, 12))))
	}
	return all
}

// noPictures are pictures that are not valid.
func noPictures() []impl.Picture {
	all := []impl.Picture{
		{}, picture(nil), picture(nil, nil), picture(row(), row(1)), picture(row(1), row()), picture(row(1), nil, row(2)),
		picture(row(1, 2), row(3)), picture(row(1), row(2, 3)), picture(row(1, 2), row(3, 4), row(5)), picture(row(1, 2, 3), row(4, 5), row(6, 7, 8)), picture(row(1, 2), row(3, 4, 5)),
		picture(square(1, 13, 1)...), picture(square(1, 1, 13)...), picture(square(1, 13, 13)...), picture(square(1, 12, 13)...), picture(square(1, 13, 12)...), picture(square(1, 1, 3000)...), picture(square(1, 3000, 1)...),
		picture(append(square(1, 12, 12), row(1))...), picture(append(square(1, 11, 12), repeated(1, 13))...), picture(append(square(1, 11, 12), repeated(1, 11))...),
	}
	for _, tone := range []int64{-1, -2, -255, impl.MaxTone + 1, 510, 1 << 8, 1 << 32, -1 << 32, 1<<32 + 1, math.MinInt64, math.MaxInt64} {
		all = append(all, picture(row(tone)), picture(row(tone, 1)), picture(row(1, 1), row(1, tone)), picture(row(1), row(tone), row(1)), picture(append(square(1, 11, 12), append(repeated(1, 11), tone))...))
	}
	return all
}

func TestPictures(t *testing.T) {
	for _, p := range pictures() {
		expect(t, "picture "+shown(p), shown(impl.ValidPicture(p)), "true")
	}
	for _, p := range noPictures() {
		expect(t, "no picture "+shown(p), shown(impl.ValidPicture(p)), "false")
	}
	for rows := range 15 {
		for columns := range 15 {
			want := rows >= 1 && rows <= 12 && columns >= 1 && columns <= 12
			expect(t, "sides "+shown(rows, columns), shown(impl.ValidPicture(picture(square(7, rows, columns)...))), shown(want))
		}
	}
	for tone := int64(-300); tone <= 600; tone++ {
		want := tone >= 0 && tone <= 255
		expect(t, "tone "+shown(tone), shown(impl.ValidPicture(picture(row(tone))), impl.ValidPicture(picture(row(0, 255), row(255, tone)))), shown(want, want))
	}
}

func TestPicturesWithOneWrongTone(t *testing.T) {
	for place := range 144 {
		for _, tone := range []int64{-1, 256} {
			list := repeated(100, 144)
			list[place] = tone
			expect(t, "wrong tone", shown(impl.ValidPicture(picture(inRows(list, 12)...))), "false")
		}
	}
}

func TestFunctionsOfInvalidPicturesFail(t *testing.T) {
	mask, _ := impl.DoublingMask(1)
	for _, p := range noPictures() {
		what := shown(p)
		expect(t, "mask "+what, both(impl.MaskDither(p, [][]int64{{0}}))+both(impl.MaskDither(p, mask)), noRows+noRows)
		for _, kind := range kinds() {
			k, _ := impl.KernelOf(kind)
			expect(t, "kernel "+what, three(impl.DiffuseDither(p, k, false))+three(impl.DiffuseDither(p, k, true)), noDither+noDither)
		}
		dots := slices.Clone(p.Rows)
		var path [][]int64
		for i, list := range dots {
			dots[i] = repeated(0, len(list))
			for k := range list {
				path = append(path, row(int64(i), int64(k)))
			}
		}
		expect(t, "path "+what, shown(impl.IsPath(p, path), impl.IsPath(p, nil))+three(impl.PathDither(p, path))+three(impl.PathDither(p, nil)), "false false"+noDither+noDither)
		expect(t, "blocks "+what, both(impl.BlockErrors(p, dots, 1))+both(impl.BlockErrors(p, nil, 1))+both(impl.BlockErrors(p, [][]int64{{0}}, 1)), noRows+noRows+noRows)
	}
}

// anyMask returns a mask with n rows.
func (n *numbers) anyMask(rows int) [][]int64 { return inRows(n.anyOrder(rows*rows), rows) }

// masks are masks of all sizes.
func masks() [][][]int64 {
	rule := numbers(52)
	var all [][][]int64
	for rows := 1; rows <= 8; rows++ {
		all = append(all, inRows(upTo(0, int64(rows*rows)-1), rows), rule.anyMask(rows), rule.anyMask(rows), rule.anyMask(rows))
	}
	for order := range int64(4) {
		mask, _ := impl.DoublingMask(order)
		all = append(all, mask)
	}
	return all
}

// noMasks are rows that are not masks.
func noMasks() [][][]int64 {
	all := [][][]int64{
		nil, {}, {nil}, {nil, nil}, {{0}, nil}, {nil, {0}}, {{1}}, {{-1}}, {{math.MinInt64}}, {{math.MaxInt64}},
		{{0, 1}}, {{0}, {1}}, {{0, 1, 2}, {3, 4, 5}}, {{0, 1}, {2, 3}, {4, 5}}, {{0, 1, 2, 3}}, {{0}, {1}, {2}, {3}},
		{{0, 1}, {2}}, {{0}, {1, 2}}, {{0, 1}, {2, 3, 4}}, {{0, 1, 2}, {3, 4}}, {{0, 1, 2}, {3}}, {{0}, {1, 2, 3}}, {{0, 1, 2}, {3, 4, 5}, {6, 7}}, {{0, 1, 2}, {3, 4, 5}, {6, 7, 8, 9}},
		{{0, 1}, {1, 2}}, {{0, 0}, {0, 0}}, {{3, 3}, {1, 2}}, {{1, 2}, {3, 4}}, {{0, 1}, {2, 4}}, {{-1, 0}, {1, 2}}, {{0, 1}, {3, 3}}, {{0, -1}, {3, 2}}, {{0, 1}, {2, 1 << 32}}, {{1 << 32, 1}, {2, 3}}, {{-2, 2}, {3, 3}}, {{-3, 2}, {3, 4}},
		{{0, 1}, {2, math.MaxInt64}}, {{math.MinInt64, 1}, {2, 3}}, {{math.MinInt64, math.MaxInt64}, {1, 7}},
		inRows(upTo(0, 80), 9), inRows(upTo(0, 71), 9), inRows(upTo(0, 71), 8), inRows(upTo(1, 64), 8), inRows(upTo(-1, 62), 8), square(0, 8, 8), square(0, 40, 40), square(math.MaxInt64, 8, 8), slices.Repeat([][]int64{nil}, 8), inRows(upTo(0, 2999), 3000),
	}
	for place := range 64 {
		for _, n := range []int64{-1, 64, int64(place+1) % 64, int64(place+63) % 64} {
			list := upTo(0, 63)
			list[place] = n
			all = append(all, inRows(list, 8))
		}
	}
	return all
}

func TestMasks(t *testing.T) {
	for _, mask := range masks() {
		expect(t, "mask "+shown(mask), shown(impl.IsMask(mask)), "true")
	}
	for _, list := range allPermutations(4) {
		expect(t, "mask "+shown(list), shown(impl.IsMask(inRows(list, 2))), "true")
	}
	found := 0
	for _, list := range allLists(4, 5) {
		// The numbers are from -1 to 4.
		for i := range list {
			list[i]--
		}
		want := slices.Equal(slices.Sorted(slices.Values(list)), upTo(0, 3))
		if want {
			found++
		}
		expect(t, "mask "+shown(list), shown(impl.IsMask(inRows(list, 2))), shown(want))
	}
	expect(t, "masks with two rows", shown(found), "24")
}

func TestRowsThatAreNoMasksFail(t *testing.T) {
	for _, mask := range noMasks() {
		what := shown(mask)
		expect(t, "no mask "+what, shown(impl.IsMask(mask)), "false")
		for _, count := range []int64{1, 2, 3, 4, 64} {
			expect(t, "no spread "+what, both(impl.SpreadOf(mask, count)), noNumber)
		}
		expect(t, "no dots "+what, both(impl.MaskDither(picture(row(128)), mask))+both(impl.MaskDither(picture(square(0, 12, 12)...), mask)), noRows+noRows)
	}
}

// doublingBy returns the doubling mask of an order from the bits of rows and columns: the least bits make the greatest digits.
func doublingBy(order int64) [][]int64 {
	var mask [][]int64
	for i := range int64(1) << order {
		var list []int64
		for k := range int64(1) << order {
			n := int64(0)
			for bit := range order {
				down, across := i>>bit&1, k>>bit&1
				n = 4*n + 2*(down^across) + down
			}
			list = append(list, n)
		}
		mask = append(mask, list)
	}
	return mask
}

func TestDoublingMasks(t *testing.T) {
	expect(t, "order 0", both(impl.DoublingMask(0)), "[[0]] true")
	expect(t, "order 2", both(impl.DoublingMask(2)), "[[0 8 2 10] [12 4 14 6] [3 11 1 9] [15 7 13 5]] true")
	for order := range int64(4) {
		mask, ok := impl.DoublingMask(order)
		expect(t, "mask of "+shown(order), both(mask, ok), both(doublingBy(order), true))
		expect(t, "is a mask", shown(impl.IsMask(mask), len(mask)), shown(true, 1<<order))
	}
}

func TestOrdersThatThereAreNotFail(t *testing.T) {
	for _, order := range append(extremes(), 3, 4, 5, 7, 31, 32, 33, 62, 63, 64, 65, 128, 1<<32, 1<<32+1, 1<<62) {
		if order < 0 || order > 3 {
			expect(t, "order "+shown(order), both(impl.DoublingMask(order))+both(impl.HilbertPath(order)), noRows+noRows)
		}
	}
}

// placesBelow returns the places of the numbers of a mask that are less than count.
func placesBelow(mask [][]int64, count int64) [][2]int64 {
	var places [][2]int64
	for i, list := range mask {
		for k, n := range list {
			if n < count {
				places = append(places, [2]int64{int64(i), int64(k)})
			}
		}
	}
	return places
}

// spreadBy measures straight distances to all copies of places in the squares around a mask.
func spreadBy(mask [][]int64, count int64) int64 {
	rows := int64(len(mask))
	least := int64(math.MaxInt64)
	places := placesBelow(mask, count)
	for i, a := range places {
		for _, b := range places[i+1:] {
			for _, down := range []int64{-rows, 0, rows} {
				for _, right := range []int64{-rows, 0, rows} {
					y, x := a[0]-b[0]+down, a[1]-b[1]+right
					least = min(least, y*y+x*x)
				}
			}
		}
	}
	return least
}

func TestSpreads(t *testing.T) {
	for _, mask := range masks() {
		places := int64(len(mask) * len(mask))
		for count := int64(2); count <= places; count++ {
			expect(t, "spread "+shown(mask, count), both(impl.SpreadOf(mask, count)), both(spreadBy(mask, count), true))
		}
		if places > 1 {
			expect(t, "all places of "+shown(mask), both(impl.SpreadOf(mask, places)), "1 true")
		}
	}
}

// maskWith returns a mask in which the first numbers stand at some places.
func maskWith(rows int, places ...[2]int) [][]int64 {
	mask := inRows(repeated(-1, rows*rows), rows)
	for n, place := range places {
		mask[place[0]][place[1]] = int64(n)
	}
	next := int64(len(places))
	for _, list := range mask {
		for k := range list {
			if list[k] == -1 {
				list[k] = next
				next++
			}
		}
	}
	return mask
}

func TestSpreadsOfTwoPlaces(t *testing.T) {
	for _, test := range []struct {
		rows int
		a, b [2]int
		want int64
	}{
		{2, [2]int{0, 0}, [2]int{1, 1}, 2}, {2, [2]int{0, 1}, [2]int{1, 1}, 1}, {3, [2]int{0, 0}, [2]int{2, 2}, 2}, {3, [2]int{0, 0}, [2]int{2, 1}, 2}, {3, [2]int{0, 2}, [2]int{0, 0}, 1},
		{4, [2]int{0, 0}, [2]int{3, 3}, 2}, {4, [2]int{0, 0}, [2]int{2, 2}, 8}, {4, [2]int{0, 0}, [2]int{2, 3}, 5}, {5, [2]int{0, 0}, [2]int{0, 4}, 1}, {5, [2]int{0, 0}, [2]int{0, 3}, 4}, {5, [2]int{4, 1}, [2]int{1, 3}, 8},
		{7, [2]int{6, 6}, [2]int{0, 0}, 2}, {7, [2]int{0, 5}, [2]int{6, 1}, 10}, {8, [2]int{0, 0}, [2]int{4, 4}, 32}, {8, [2]int{7, 0}, [2]int{0, 7}, 2}, {8, [2]int{0, 0}, [2]int{5, 0}, 9}, {8, [2]int{2, 6}, [2]int{2, 1}, 9}, {8, [2]int{1, 1}, [2]int{4, 4}, 18},
	} {
		expect(t, "two places "+shown(test), both(impl.SpreadOf(maskWith(test.rows, test.a, test.b), 2)), both(test.want, true))
		expect(t, "the other way round "+shown(test), both(impl.SpreadOf(maskWith(test.rows, test.b, test.a), 2)), both(test.want, true))
	}
	// The places 0 and 1 are as far apart as can be, and the place 2 is the nearest one to both.
	far := maskWith(8, [2]int{0, 0}, [2]int{4, 4}, [2]int{6, 6})
	expect(t, "three places", both(impl.SpreadOf(far, 2))+both(impl.SpreadOf(far, 3))+both(impl.SpreadOf(far, 4)), "32 true8 true1 true")
}

func TestSpreadsOfDoublingMasks(t *testing.T) {
	for order := int64(1); order <= 3; order++ {
		mask, _ := impl.DoublingMask(order)
		half := int64(1) << order / 2
		expect(t, "two, three and four places", both(impl.SpreadOf(mask, 2))+both(impl.SpreadOf(mask, 3))+both(impl.SpreadOf(mask, 4)), both(2*half*half, true)+both(half*half, true)+both(half*half, true))
	}
}

func TestCountsThatThereAreNotFail(t *testing.T) {
	for _, mask := range masks() {
		places := int64(len(mask) * len(mask))
		for _, count := range append(extremes(), places+1, places+2, 2*places+2, 65) {
			if count < 2 || count > places {
				expect(t, "count "+shown(mask, count), both(impl.SpreadOf(mask, count)), noNumber)
			}
		}
	}
	expect(t, "a mask of one place", both(impl.SpreadOf([][]int64{{0}}, 1))+both(impl.SpreadOf([][]int64{{0}}, 2)), noNumber+noNumber)
}

// maskedBy compares each tone as a part of MaxTone with the middle of the part of its number.
func maskedBy(p impl.Picture, mask [][]int64) [][]int64 {
	rows := len(mask)
	var dots [][]int64
	for i, list := range p.Rows {
		var dotsOfRow []int64
		for k, tone := range list {
			middle := big.NewRat(2*mask[i%rows][k%rows]+1, 2*int64(rows*rows))
			if big.NewRat(tone, impl.MaxTone).Cmp(middle) > 0 {
				dotsOfRow = append(dotsOfRow, 1)
			} else {
				dotsOfRow = append(dotsOfRow, 0)
			}
		}
		dots = append(dots, dotsOfRow)
	}
	return dots
}

func TestMaskDither(t *testing.T) {
	for _, p := range pictures() {
		for _, mask := range masks() {
			expect(t, "dots "+shown(p, mask), both(impl.MaskDither(p, mask)), both(maskedBy(p, mask), true))
		}
	}
}

func TestMaskDitherOfAllSides(t *testing.T) {
	rule := numbers(53)
	for rows := 1; rows <= 12; rows++ {
		for columns := 1; columns <= 12; columns++ {
			for n := 1; n <= 8; n++ {
				p, mask := rule.anyPicture(rows, columns), rule.anyMask(n)
				expect(t, "dots "+shown(p, mask), both(impl.MaskDither(p, mask)), both(maskedBy(p, mask), true))
			}
		}
	}
}

func TestMasksBeginAgainBehindTheirLastRowAndColumn(t *testing.T) {
	// In a picture of the tone 100, only the numbers 0 to 3 of 9 and 0 to 5 of 16 have dots.
	tones := picture(square(100, 4, 7)...)
	expect(t, "three rows", both(impl.MaskDither(tones, [][]int64{{0, 8, 7}, {6, 1, 5}, {4, 3, 2}})), "[[1 0 0 1 0 0 1] [0 1 0 0 1 0 0] [0 1 1 0 1 1 0] [1 0 0 1 0 0 1]] true")
	expect(t, "a mask that is greater", both(impl.MaskDither(picture(square(100, 2, 3)...), inRows(upTo(0, 15), 4))), "[[1 1 1] [1 1 0]] true")
	expect(t, "one place", both(impl.MaskDither(picture(row(100)), inRows(upTo(0, 63), 8))), "[[1]] true")
	expect(t, "rows and columns", both(impl.MaskDither(picture(row(128, 128)), [][]int64{{0, 3}, {1, 2}}))+both(impl.MaskDither(picture(row(128), row(128)), [][]int64{{0, 3}, {1, 2}})), "[[1 0]] true[[1] [1]] true")
}

func TestTonesThatJustGetADot(t *testing.T) {
	for _, mask := range masks() {
		rows := int64(len(mask))
		least := inRows(repeated(0, len(mask)*len(mask)), len(mask))
		less := inRows(repeated(0, len(mask)*len(mask)), len(mask))
		for i, list := range mask {
			for k, m := range list {
				tone, _ := impl.DivFloor(impl.MaxTone*(2*m+1), 2*rows*rows)
				least[i][k], less[i][k] = tone+1, tone
			}
		}
		expect(t, "just a dot "+shown(mask), both(impl.MaskDither(picture(least...), mask)), both(square(1, len(mask), len(mask)), true))
		expect(t, "one less "+shown(mask), both(impl.MaskDither(picture(less...), mask)), both(square(0, len(mask), len(mask)), true))
	}
	mask, _ := impl.DoublingMask(1)
	expect(t, "order 1, just a dot", both(impl.MaskDither(picture(row(32, 160), row(224, 96)), mask)), "[[1 1] [1 1]] true")
	expect(t, "order 1, one less", both(impl.MaskDither(picture(row(31, 159), row(223, 95)), mask)), "[[0 0] [0 0]] true")
	expect(t, "one place", both(impl.MaskDither(picture(row(127, 128)), [][]int64{{0}})), "[[0 1]] true")
}

func TestMasksGiveEachToneAsManyDotsAsItIsWorth(t *testing.T) {
	for _, mask := range masks() {
		places := int64(len(mask) * len(mask))
		for tone := range int64(impl.MaxTone + 1) {
			dots, ok := impl.MaskDither(picture(square(tone, len(mask), len(mask))...), mask)
			want, _ := impl.DivNearest(places*tone, impl.MaxTone)
			expect(t, "dots for "+shown(mask, tone), both(sumOf(flat(dots)), ok), both(want, true))
		}
	}
}
