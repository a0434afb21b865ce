package tests

import (
	"math"
	"math/big"
	"slices"
	"testing"

	"loop.example/g01129/impl"
)

// The tests of this file are for promise 10: kernels and diffusion.

// noKernel and noDither are what functions that return a kernel, or dots and an error, must return if they fail.
var (
	noKernel = shown(impl.Kernel{}, false)
	noDither = shown([][]int64{}, 0, false)
)

// kinds returns the kinds of kernels.
func kinds() []int64 { return []int64{impl.KernelFour, impl.KernelSix, impl.KernelLine} }

// kernel makes a kernel.
func kernel(parts int64, taps ...impl.Tap) impl.Kernel { return impl.Kernel{Parts: parts, Taps: taps} }

// tap makes a tap.
func tap(down, right, part int64) impl.Tap { return impl.Tap{Down: down, Right: right, Part: part} }

func TestKernelsOfKinds(t *testing.T) {
	expect(t, "kinds", shown(kinds()), "[0 1 2]")
	expect(t, "four", both(impl.KernelOf(impl.KernelFour)), "{16 [{0 1 7} {1 -1 3} {1 0 5} {1 1 1}]} true")
	expect(t, "six", both(impl.KernelOf(impl.KernelSix)), "{8 [{0 1 1} {0 2 1} {1 -1 1} {1 0 1} {1 1 1} {2 0 1}]} true")
	expect(t, "line", both(impl.KernelOf(impl.KernelLine)), "{1 [{0 1 1}]} true")
	for _, kind := range kinds() {
		k, _ := impl.KernelOf(kind)
		expect(t, "valid", shown(impl.ValidKernel(k)), "true")
	}
	for _, kind := range append(extremes(), 3, 4, 1<<32, 1<<32+1, 1<<62) {
		if kind < 0 || kind > 2 {
			expect(t, "kind "+shown(kind), both(impl.KernelOf(kind)), noKernel)
		}
	}
}

// allTaps are a tap for each place to which an error can go, each of one part.
func allTaps() []impl.Tap {
	return []impl.Tap{
		tap(0, 1, 1), tap(0, 2, 1), tap(1, -2, 1), tap(1, -1, 1), tap(1, 0, 1), tap(1, 1, 1), tap(1, 2, 1),
		tap(2, -2, 1), tap(2, -1, 1), tap(2, 0, 1), tap(2, 1, 1), tap(2, 2, 1),
	}
}

// withParts returns taps with other parts.
func withParts(taps []impl.Tap, parts ...int64) []impl.Tap {
	changed := slices.Clone(taps)
	for i := range changed {
		changed[i].Part = parts[i]
	}
	return changed
}

// anyKernel returns a kernel with taps in any order.
func (n *numbers) anyKernel() impl.Kernel {
	k := kernel(n.next(1, n.next(1, impl.MaxTapParts)))
	left := k.Parts
	for _, i := range n.anyOrder(impl.MaxTaps)[:n.next(0, impl.MaxTaps)] {
		if left == 0 {
			break
		}
		x := allTaps()[i]
		x.Part = n.next(1, n.next(1, left))
		left -= x.Part
		k.Taps = append(k.Taps, x)
	}
	return k
}

// kernels are kernels of all kinds.
func kernels() []impl.Kernel {
	all := []impl.Kernel{
		kernel(1), kernel(2), kernel(impl.MaxTapParts), kernel(12, allTaps()...), kernel(13, allTaps()...), kernel(63, allTaps()...), kernel(impl.MaxTapParts, allTaps()...),
		kernel(impl.MaxTapParts, withParts(allTaps(), 6, 6, 6, 6, 5, 5, 5, 5, 5, 5, 5, 5)...), kernel(impl.MaxTapParts, withParts(allTaps(), 6, 6, 6, 6, 5, 5, 5, 5, 5, 5, 5, 4)...), kernel(impl.MaxTapParts, withParts(allTaps(), 1, 1, 1, 1, 1, 53, 1, 1, 1, 1, 1, 1)...),
	}
	for _, x := range allTaps() {
		all = append(all, kernel(1, x), kernel(2, x), kernel(impl.MaxTapParts, x))
		for _, part := range []int64{63, 64} {
			x.Part = part
			all = append(all, kernel(impl.MaxTapParts, x))
		}
	}
	for _, kind := range kinds() {
		k, _ := impl.KernelOf(kind)
		all = append(all, k)
	}
	rule := numbers(54)
	for range 60 {
		all = append(all, rule.anyKernel())
	}
	return all
}

// noKernels are kernels that are not valid.
func noKernels() []impl.Kernel {
	one := tap(0, 1, 1)
	all := []impl.Kernel{
		{}, kernel(0, one), kernel(-1, one), kernel(-1), kernel(65), kernel(65, one), kernel(128, allTaps()...), kernel(math.MinInt64), kernel(math.MaxInt64), kernel(math.MaxInt64, one), kernel(1<<32+1, one), kernel(math.MinInt64, one),
		kernel(64, append(allTaps(), one)...), kernel(64, append(allTaps(), tap(0, 3, 1))...), kernel(64, append(allTaps(), tap(3, 0, 1))...), kernel(64, append(allTaps(), tap(0, 0, 1))...), kernel(64, slices.Repeat([]impl.Tap{one}, 13)...), kernel(64, slices.Repeat([]impl.Tap{one}, 3000)...),
		kernel(64, one, one), kernel(64, tap(1, -1, 2), tap(1, -1, 3)), kernel(64, tap(2, 2, 1), one, tap(1, 0, 4), tap(2, 2, 7)), kernel(64, one, tap(0, 2, 1), tap(0, 1, 2)), kernel(2, one, one), kernel(64, slices.Repeat([]impl.Tap{one}, 12)...),
		kernel(1, one, tap(1, 0, 1)), kernel(1, tap(0, 1, 2)), kernel(11, allTaps()...), kernel(64, tap(0, 1, 65)), kernel(64, tap(0, 1, 64), tap(1, 0, 1)), kernel(16, tap(0, 1, 7), tap(1, -1, 3), tap(1, 0, 5), tap(1, 1, 2)),
		kernel(64, withParts(allTaps(), 6, 6, 6, 6, 6, 5, 5, 5, 5, 5, 5, 5)...), kernel(64, withParts(allTaps(), 1, 1, 1, 1, 1, 54, 1, 1, 1, 1, 1, 1)...),
		kernel(64, tap(0, 1, math.MaxInt64), tap(1, 0, math.MaxInt64), tap(1, 1, 2)), kernel(64, tap(0, 1, math.MaxInt64), tap(1, 0, 1)), kernel(64, tap(0, 1, 1<<62), tap(1, 0, 1<<62), tap(1, 1, 1<<62), tap(1, 2, 1<<62)), kernel(64, tap(0, 1, 1<<32)),
		kernel(64, tap(0, 1, 5), tap(1, 0, -1)), kernel(64, tap(0, 1, 70), tap(1, 0, -10)), kernel(64, tap(0, 1, math.MinInt64), tap(1, 0, math.MinInt64), tap(1, 1, 1)), kernel(64, tap(0, 1, 1), tap(1, 0, 0)),
	}
	for _, n := range []int64{0, -1, -64, math.MinInt64} {
		all = append(all, kernel(64, tap(0, 1, n)), kernel(1, tap(1, -2, n)), kernel(64, append(allTaps()[:11], tap(2, 2, n))...))
	}
	for _, n := range []int64{-3, 3, 256, 1 << 32, 1<<32 + 1, -1 << 32, math.MinInt64, math.MaxInt64} {
		all = append(all, kernel(64, tap(n, 1, 1)), kernel(64, tap(n, 0, 1)), kernel(64, tap(0, n, 1)), kernel(64, tap(1, n, 1)), kernel(64, tap(n, n, 1)), kernel(64, one, tap(2, n, 1)))
	}
	return append(all, kernel(64, tap(-1, 1, 1)), kernel(64, tap(-1, 2, 1)), kernel(64, tap(-2, 2, 1)), kernel(64, tap(0, 0, 1)), kernel(64, tap(0, -1, 1)), kernel(64, tap(0, -2, 1)), kernel(64, tap(-1, 0, 1)), kernel(64, tap(-1, -1, 1)))
}

func TestKernels(t *testing.T) {
	for _, k := range kernels() {
		expect(t, "kernel "+shown(k), shown(impl.ValidKernel(k)), "true")
	}
	for down := int64(-3); down <= 5; down++ {
		for right := int64(-5); right <= 5; right++ {
			want := slices.Contains(allTaps(), tap(down, right, 1))
			expect(t, "tap "+shown(down, right), shown(impl.ValidKernel(kernel(1, tap(down, right, 1))), impl.ValidKernel(kernel(64, tap(1, 0, 1), tap(down, right, 1)))), shown(want, want && (down != 1 || right != 0)))
		}
	}
	for parts := int64(-2); parts <= 70; parts++ {
		expect(t, "parts "+shown(parts), shown(impl.ValidKernel(kernel(parts))), shown(parts >= 1 && parts <= 64))
		for part := int64(-2); part <= 70; part++ {
			want := parts >= 1 && parts <= 64 && part >= 1 && part <= parts
			expect(t, "part "+shown(parts, part), shown(impl.ValidKernel(kernel(parts, tap(0, 1, part)))), shown(want))
			want = parts >= 1 && parts <= 64 && part >= 1 && part+3 <= parts
			expect(t, "parts "+shown(parts, part), shown(impl.ValidKernel(kernel(parts, tap(0, 1, part), tap(2, -2, 3)))), shown(want))
		}
	}
}

func TestKernelsThatAreNotValidFail(t *testing.T) {
	for _, k := range noKernels() {
		expect(t, "no kernel "+shown(k), shown(impl.ValidKernel(k)), "false")
		for _, p := range []impl.Picture{picture(row(7)), picture(row(128, 3), row(255, 0)), picture(square(200, 12, 12)...)} {
			expect(t, "no dots "+shown(k), three(impl.DiffuseDither(p, k, false))+three(impl.DiffuseDither(p, k, true)), noDither+noDither)
		}
	}
}

// isBack reports whether one goes through a row from its last column on.
func isBack(turning bool, index int) bool { return turning && index%2 != 0 }

// visited returns all places of a picture in the order in which diffusion goes through them.
func visited(p impl.Picture, turning bool) [][2]int {
	var places [][2]int
	for i, list := range p.Rows {
		var inRow [][2]int
		for k := range list {
			inRow = append(inRow, [2]int{i, k})
		}
		if isBack(turning, i) {
			slices.Reverse(inRow)
		}
		places = append(places, inRow...)
	}
	return places
}

// goes returns the place to which a tap leads from a place.
func goes(x impl.Tap, from [2]int, turning bool) [2]int {
	if isBack(turning, from[0]) {
		return [2]int{from[0] + int(x.Down), from[1] - int(x.Right)}
	}
	return [2]int{from[0] + int(x.Down), from[1] + int(x.Right)}
}

// partOf returns the part of an error that goes with a tap.
func partOf(e int64, x impl.Tap, parts int64) int64 {
	// For a positive divisor, Div of big.Int rounds down.
	product := new(big.Int).Mul(big.NewInt(e), big.NewInt(x.Part))
	return product.Div(product, big.NewInt(parts)).Int64()
}

// diffusedBy makes the dots of places from the errors of all places before, from which it collects what leads there.
func diffusedBy(p impl.Picture, k impl.Kernel, turning bool) ([][]int64, int64) {
	errors := map[[2]int]int64{}
	dots := inRows(repeated(0, len(flat(p.Rows))), len(p.Rows[0]))
	received := int64(0)
	for _, at := range visited(p, turning) {
		e := p.Rows[at[0]][at[1]]
		for from, earlier := range errors {
			for _, x := range k.Taps {
				if goes(x, from, turning) == at {
					e += partOf(earlier, x, k.Parts)
					received += partOf(earlier, x, k.Parts)
				}
			}
		}
		if e > 127 {
			dots[at[0]][at[1]] = 1
			e -= 255
		}
		errors[at] = e
	}
	lost := -received
	for _, e := range errors {
		lost += e
	}
	return dots, lost
}

// checkDiffused checks the dots of a picture with a kernel in both ways, and that no tone gets lost untold.
func checkDiffused(t *testing.T, p impl.Picture, k impl.Kernel) {
	t.Helper()
	for _, turning := range []bool{false, true} {
		dots, lost, ok := impl.DiffuseDither(p, k, turning)
		want, wantLost := diffusedBy(p, k, turning)
		expect(t, "dots "+shown(p, k, turning), three(dots, lost, ok), three(want, wantLost, true))
		expect(t, "sum "+shown(p, k, turning), shown(sumOf(flat(p.Rows))), shown(impl.MaxTone*sumOf(flat(dots))+lost))
	}
}

func TestDiffusionOfAllKernels(t *testing.T) {
	rule := numbers(55)
	for _, k := range kernels() {
		for _, p := range []impl.Picture{rule.anyPicture(1, 1), rule.anyPicture(1, 12), rule.anyPicture(12, 1), rule.anyPicture(2, 2), rule.anyPicture(12, 12), rule.anyPicture(int(rule.next(2, 12)), int(rule.next(2, 12)))} {
			checkDiffused(t, p, k)
		}
	}
}

func TestDiffusionOfAllPictures(t *testing.T) {
	rule := numbers(56)
	for _, p := range pictures() {
		checkDiffused(t, p, rule.anyKernel())
		for _, kind := range kinds() {
			k, _ := impl.KernelOf(kind)
			checkDiffused(t, p, k)
		}
	}
}

func TestDiffusionOfSmallPictures(t *testing.T) {
	four, _ := impl.KernelOf(impl.KernelFour)
	even := picture(row(100, 100), row(100, 100))
	// The errors are 100, -112, 110 and 119.
	expect(t, "four", three(impl.DiffuseDither(even, four, false)), "[[0 1] [0 0]] 145 true")
	// The errors are 100, -112, 71 at the end of the second row, and -114 at its beginning.
	expect(t, "four turning", three(impl.DiffuseDither(even, four, true)), "[[0 1] [1 0]] -110 true")
	six, _ := impl.KernelOf(impl.KernelSix)
	expect(t, "one place, from which no tap stays in the picture", three(impl.DiffuseDither(picture(row(100)), six, false)), "[[0]] 100 true")
	expect(t, "one place", three(impl.DiffuseDither(picture(row(200)), four, true))+three(impl.DiffuseDither(picture(row(50)), four, false)), "[[1]] -55 true[[0]] 50 true")
}

func TestNumbersForWhichTheDotIsJustOne(t *testing.T) {
	for _, k := range kernels() {
		for _, turning := range []bool{false, true} {
			expect(t, "127 "+shown(k), three(impl.DiffuseDither(picture(row(127)), k, turning)), "[[0]] 127 true")
			expect(t, "128 "+shown(k), three(impl.DiffuseDither(picture(row(128)), k, turning)), "[[1]] -127 true")
		}
	}
	line := kernel(1, tap(0, 1, 1))
	expect(t, "127 of two tones", three(impl.DiffuseDither(picture(row(100, 27)), line, false)), "[[0 0]] 127 true")
	expect(t, "128 of two tones", three(impl.DiffuseDither(picture(row(100, 28)), line, false)), "[[0 1]] -127 true")
	expect(t, "127 behind a dot", three(impl.DiffuseDither(picture(row(200, 182)), line, false)), "[[1 0]] 127 true")
	expect(t, "128 behind a dot", three(impl.DiffuseDither(picture(row(200, 183)), line, false)), "[[1 1]] -127 true")
	for tone := range int64(256) {
		dot, e := int64(0), tone
		if tone >= 128 {
			dot, e = 1, tone-255
		}
		expect(t, "tone "+shown(tone), three(impl.DiffuseDither(picture(row(tone)), kernel(7), false)), three([][]int64{{dot}}, e, true))
	}
}

func TestPartsOfNegativeErrorsAreRoundedDown(t *testing.T) {
	four, _ := impl.KernelOf(impl.KernelFour)
	// 7 / 16 of the error -127 is -55.5625, so that -56 goes to the right.
	expect(t, "183", three(impl.DiffuseDither(picture(row(128, 183)), four, false)), "[[1 0]] 56 true")
	expect(t, "184", three(impl.DiffuseDither(picture(row(128, 184)), four, false)), "[[1 1]] -198 true")
	// 1 / 64 of the error -1 is -1 for each tap: two of these come to the last place, one of them over the place between.
	least := kernel(64, allTaps()...)
	expect(t, "129", three(impl.DiffuseDither(picture(row(254, 0, 129)), least, false)), "[[1 0 0]] 128 true")
	expect(t, "130", three(impl.DiffuseDither(picture(row(254, 0, 130)), least, false)), "[[1 0 1]] -126 true")
	for _, tone := range []int64{128, 200, 254} {
		for _, k := range []impl.Kernel{least, kernel(12, allTaps()...), kernel(13, allTaps()...)} {
			list := append(row(tone), repeated(0, 143)...)
			checkDiffused(t, picture(inRows(list, 12)...), k)
			list[0], list[143] = 0, tone
			checkDiffused(t, picture(inRows(list, 12)...), k)
		}
	}
}

func TestPartsOfPositiveErrorsAreRoundedDown(t *testing.T) {
	four, _ := impl.KernelOf(impl.KernelFour)
	// 7 / 16 of the error 101 is 44.1875.
	expect(t, "83", three(impl.DiffuseDither(picture(row(101, 83)), four, false)), "[[0 0]] 184 true")
	expect(t, "84", three(impl.DiffuseDither(picture(row(101, 84)), four, false)), "[[0 1]] -70 true")
	// Less than all parts are sent: of the error 100, 9 / 10 of it.
	most := kernel(10, tap(0, 1, 9))
	expect(t, "37", three(impl.DiffuseDither(picture(row(100, 37)), most, false)), "[[0 0]] 137 true")
	expect(t, "38", three(impl.DiffuseDither(picture(row(100, 38)), most, false)), "[[0 1]] -117 true")
}

// single returns a picture of the tone 0 with other tones at two places.
func single(rows, columns int, from [2]int, tone int64, to [2]int, other int64) impl.Picture {
	tones := inRows(repeated(0, rows*columns), columns)
	tones[from[0]][from[1]] = tone
	tones[to[0]][to[1]] = other
	return picture(tones...)
}

// oneDot returns dots with a dot 1 at one place.
func oneDot(rows, columns int, at [2]int) [][]int64 { return single(rows, columns, at, 1, at, 1).Rows }

func TestTapsLeadToTheirPlaces(t *testing.T) {
	for _, x := range allTaps() {
		for source := range 3 {
			for _, turning := range []bool{false, true} {
				from := [2]int{source, 2}
				right := int(x.Right)
				if turning && source == 1 {
					right = -right
				}
				to := [2]int{source + int(x.Down), 2 + right}
				// The error 127 makes a dot of the tone 1, and of no other tone.
				p := single(5, 5, from, 127, to, 1)
				expect(t, "tap "+shown(x, from, turning), three(impl.DiffuseDither(p, kernel(1, x), turning)), three(oneDot(5, 5, to), -127, true))
				// What goes to another place leaves it without one.
				p.Rows[to[0]][to[1]] = 0
				expect(t, "tap to 0 "+shown(x, from, turning), three(impl.DiffuseDither(p, kernel(1, x), turning)), three(square(0, 5, 5), 127, true))
			}
		}
	}
}

// isInside reports whether a place lies in a picture with three rows and columns.
func isInside(at [2]int) bool { return at[0] < 3 && at[1] >= 0 && at[1] < 3 }

func TestWhatLeadsOutOfThePictureIsLost(t *testing.T) {
	outside := 0
	none := square(0, 3, 3)
	for _, x := range allTaps() {
		for _, turning := range []bool{false, true} {
			places := visited(picture(none...), turning)
			for i, from := range places {
				if isInside(goes(x, from, turning)) {
					continue
				}
				outside++
				alone := single(3, 3, from, 127, from, 127)
				expect(t, "lost "+shown(x, from, turning), three(impl.DiffuseDither(alone, kernel(1, x), turning)), three(none, 127, true))
				// The error 127 would make a dot of the tone 1, if it came there.
				for _, to := range places[i+1:] {
					p := single(3, 3, from, 127, to, 1)
					expect(t, "not at "+shown(x, from, turning, to), three(impl.DiffuseDither(p, kernel(1, x), turning)), three(none, 128, true))
				}
			}
		}
	}
	expect(t, "taps outside", shown(outside), "144")
}

func TestOnlyThePartsInsideOfThePictureArePassedOn(t *testing.T) {
	// From the right end, 7 and 1 parts of 16 are lost of the error 112, but 3 and 5 go down.
	four, _ := impl.KernelOf(impl.KernelFour)
	p := picture(row(0, 112), row(106, 0))
	expect(t, "just no dot", three(impl.DiffuseDither(p, four, false)), "[[0 0] [0 0]] 218 true")
	p = picture(row(0, 112), row(107, 0))
	expect(t, "just a dot", three(impl.DiffuseDither(p, four, false)), "[[0 0] [1 0]] -36 true")
	// Of the 21 that come down to the left, 9 go on to the right.
	p = picture(row(0, 112), row(0, 83))
	expect(t, "straight down, just no dot", three(impl.DiffuseDither(p, four, false)), "[[0 0] [0 0]] 195 true")
	p = picture(row(0, 112), row(0, 84))
	expect(t, "straight down, just a dot", three(impl.DiffuseDither(p, four, false)), "[[0 0] [0 1]] -59 true")
}

func TestTurningInOneRowMakesNoDifference(t *testing.T) {
	rule := numbers(57)
	for _, k := range kernels() {
		p := rule.anyPicture(1, int(rule.next(1, 12)))
		expect(t, "one row "+shown(p, k), three(impl.DiffuseDither(p, k, true)), three(impl.DiffuseDither(p, k, false)))
	}
}

// mirrored returns rows, each of which is reversed if its index has a remainder modulo 2.
func mirrored(rows [][]int64, remainder int) [][]int64 {
	var all [][]int64
	for i, list := range rows {
		other := slices.Clone(list)
		if i%2 == remainder {
			slices.Reverse(other)
		}
		all = append(all, other)
	}
	return all
}

func TestTurningGoesBackInOddRows(t *testing.T) {
	rule := numbers(58)
	line := kernel(1, tap(0, 1, 1))
	differ := 0
	for range 100 {
		p := rule.anyPicture(int(rule.next(2, 12)), int(rule.next(2, 12)))
		// With this kernel, rows are independent of one another.
		dots, lost, ok := impl.DiffuseDither(p, line, true)
		other, otherLost, otherOk := impl.DiffuseDither(picture(mirrored(p.Rows, 1)...), line, false)
		expect(t, "line "+shown(p), three(mirrored(dots, 1), lost, ok), three(other, otherLost, otherOk))
		straight, _, _ := impl.DiffuseDither(p, line, false)
		if shown(straight) != shown(dots) {
			differ++
		}
	}
	expect(t, "turning matters", shown(differ > 30), "true")
	p := picture(row(100, 100), row(100, 100), row(100, 100))
	expect(t, "three rows", three(impl.DiffuseDither(p, line, true))+three(impl.DiffuseDither(p, line, false)), "[[0 1] [1 0] [0 1]] -165 true[[0 1] [0 1] [0 1]] -165 true")
}

func TestKernelsWithoutTapsLoseAllErrors(t *testing.T) {
	for _, p := range pictures() {
		one, ok := impl.MaskDither(p, [][]int64{{0}})
		lost := sumOf(flat(p.Rows)) - impl.MaxTone*sumOf(flat(one))
		for _, turning := range []bool{false, true} {
			expect(t, "no taps "+shown(p), three(impl.DiffuseDither(p, kernel(5), turning)), three(one, lost, ok))
		}
	}
}

func TestTheOrderOfTapsMakesNoDifference(t *testing.T) {
	rule := numbers(59)
	for range 100 {
		k, p := rule.anyKernel(), rule.anyPicture(int(rule.next(1, 12)), int(rule.next(1, 12)))
		back := kernel(k.Parts, slices.Clone(k.Taps)...)
		slices.Reverse(back.Taps)
		expect(t, "back "+shown(p, k), three(impl.DiffuseDither(p, back, true)), three(impl.DiffuseDither(p, k, true)))
	}
}
