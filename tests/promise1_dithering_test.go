package tests

import (
	"math"
	"slices"
	"testing"

	"loop.example/g01129/impl"
)

// The tests of this file are for promise 1 and the functions of chapter 9.

// anyTones are tones of pictures of all kinds, and other rows.
func anyTones() [][][]int64 {
	var all [][][]int64
	for i, p := range append(pictures(), noPictures()...) {
		if i%4 == 0 {
			all = append(all, p.Rows)
		}
	}
	return append(all, square(math.MaxInt64, 12, 12), square(math.MinInt64, 12, 12), row8(), row8()[:4], slices.Repeat([][]int64{nil}, 3000))
}

// row8 returns a mask with 8 rows, which is a picture too.
func row8() [][]int64 { return inRows(upTo(0, 63), 8) }

// anyRowsOfDithering are masks, dots and paths of all kinds, and other rows.
func anyRowsOfDithering() [][][]int64 {
	all := [][][]int64{nil, {}, row8(), placesOf(picture(row8()...)), {{0, 0}}, {{0, 0}, {0, 1}}, {{0, 0}, {1, 0}}, {{0, 1}, {1, 0}}, square(math.MaxInt64, 2, 2), square(math.MinInt64, 144, 2), slices.Repeat([][]int64{{math.MaxInt64, math.MinInt64}}, 144), {{0}}}
	for i, rows := range slices.Concat(noMasks()[:60], noDots(), anyGroups()) {
		if i%3 == 0 {
			all = append(all, rows)
		}
	}
	for i, mask := range masks() {
		if i%5 == 0 {
			all = append(all, mask)
		}
	}
	for _, order := range []int64{0, 1, 2, 3} {
		path, _ := impl.HilbertPath(order)
		all = append(all, path)
	}
	for text := range dotTexts() {
		dots, _ := impl.ReadDots(text)
		all = append(all, dots)
	}
	return all
}

// guardedKernel returns a copy of a kernel that has unused capacity, and a function that tells whether any of it was changed.
func guardedKernel(k impl.Kernel) (impl.Kernel, func() bool) {
	if k.Taps == nil {
		return k, func() bool { return true }
	}
	memory := append(slices.Clone(k.Taps), tap(spare, spare, spare), tap(spare, 1, 1))
	before := slices.Clone(memory)
	return impl.Kernel{Parts: k.Parts, Taps: memory[:len(k.Taps)]}, func() bool { return slices.Equal(memory, before) }
}

func TestPicturesReturnRepeatAndChangeNothing(t *testing.T) {
	for _, tones := range anyTones() {
		rows, isSame := guardedGroups(tones)
		p := impl.Picture{Rows: rows}
		twice(t, "pictures", func() string { return shown(impl.ValidPicture(p)) })
		for _, other := range anyRowsOfDithering() {
			list, isSameList := guardedGroups(other)
			twice(t, "pictures and rows", func() string {
				return both(impl.MaskDither(p, list)) + shown(impl.IsPath(p, list)) + three(impl.PathDither(p, list)) + both(impl.BlockErrors(p, list, 1)) + both(impl.BlockErrors(p, list, 2))
			})
			if !isSameList() {
				t.Errorf("a function of a picture changes %v", other)
			}
		}
		if !isSame() {
			t.Errorf("a function of a picture changes %v", tones)
		}
	}
}

func TestBlocksAndPathsOfPicturesReturnRepeatAndChangeNothing(t *testing.T) {
	rule := numbers(68)
	for _, given := range pictures() {
		rows, isSame := guardedGroups(given.Rows)
		dots, isSameDots := guardedGroups(rule.anyDots(len(given.Rows), len(given.Rows[0]), 2))
		path, isSamePath := guardedGroups(rule.anyPath(given))
		p := impl.Picture{Rows: rows}
		for _, size := range append(extremes(), 3, 4, 6, 12, 13) {
			twice(t, "blocks", func() string { return both(impl.BlockErrors(p, dots, size)) })
		}
		twice(t, "paths", func() string { return shown(impl.IsPath(p, path)) + three(impl.PathDither(p, path)) })
		if !isSame() || !isSameDots() || !isSamePath() {
			t.Errorf("a function of a picture and its dots or places changes %v", given)
		}
	}
}

func TestKernelsReturnRepeatAndChangeNothing(t *testing.T) {
	for _, given := range append(kernels(), noKernels()...) {
		k, isSame := guardedKernel(given)
		twice(t, "kernels", func() string { return shown(impl.ValidKernel(k)) })
		for i, tones := range anyTones() {
			if i%6 != 0 {
				continue
			}
			rows, isSameRows := guardedGroups(tones)
			p := impl.Picture{Rows: rows}
			twice(t, "pictures and kernels", func() string { return three(impl.DiffuseDither(p, k, false)) + three(impl.DiffuseDither(p, k, true)) })
			if !isSameRows() {
				t.Errorf("DiffuseDither changes %v", tones)
			}
		}
		if !isSame() {
			t.Errorf("a function of a kernel changes %v", given)
		}
	}
}

func TestMasksAndDotsReturnRepeatAndChangeNothing(t *testing.T) {
	for _, given := range anyRowsOfDithering() {
		rows, isSame := guardedGroups(given)
		twice(t, "rows", func() string { return shown(impl.IsMask(rows)) + both(impl.DotsText(rows)) })
		for _, count := range append(extremes(), 3, 4, 63, 64, 65) {
			twice(t, "spreads", func() string { return both(impl.SpreadOf(rows, count)) })
		}
		if !isSame() {
			t.Errorf("a function of masks or dots changes %v", given)
		}
	}
}

func TestOrdersKindsAndTextsOfDitheringReturnAndRepeat(t *testing.T) {
	for _, n := range append(extremes(), 3, 4, 62, 63, 64, 65) {
		twice(t, "numbers", func() string {
			return both(impl.DoublingMask(n)) + both(impl.HilbertPath(n)) + both(impl.KernelOf(n))
		})
	}
	for _, s := range append(anyTexts(), wrongDotTexts()...) {
		twice(t, "texts", func() string { return both(impl.ReadDots(s)) })
	}
	for s := range dotTexts() {
		twice(t, "texts of dots", func() string { return both(impl.ReadDots(s)) })
	}
}

func TestDitheringReturnsNewRows(t *testing.T) {
	p, one := picture(row(10, 200, 128, 7), row(255, 0, 130, 90)), picture(row(77))
	mask, dots, path := [][]int64{{0, 2}, {3, 1}}, [][]int64{{0, 1, 1, 0}, {1, 0, 0, 0}}, placesOf(p)
	k := kernel(16, tap(0, 1, 7), tap(1, -1, 3))
	arguments := func() string { return shown(p, one, mask, dots, path, k) }
	for name, call := range map[string]func() ([][]int64, bool){
		"DoublingMask":              func() ([][]int64, bool) { return impl.DoublingMask(3) },
		"DoublingMask of order 0":   func() ([][]int64, bool) { return impl.DoublingMask(0) },
		"MaskDither":                func() ([][]int64, bool) { return impl.MaskDither(p, mask) },
		"MaskDither of one place":   func() ([][]int64, bool) { return impl.MaskDither(one, mask) },
		"DiffuseDither":             func() ([][]int64, bool) { r, _, ok := impl.DiffuseDither(p, k, false); return r, ok },
		"DiffuseDither turning":     func() ([][]int64, bool) { r, _, ok := impl.DiffuseDither(p, k, true); return r, ok },
		"HilbertPath":               func() ([][]int64, bool) { return impl.HilbertPath(3) },
		"HilbertPath of order 0":    func() ([][]int64, bool) { return impl.HilbertPath(0) },
		"HilbertPath of order 1":    func() ([][]int64, bool) { return impl.HilbertPath(1) },
		"PathDither":                func() ([][]int64, bool) { r, _, ok := impl.PathDither(p, path); return r, ok },
		"PathDither of one place":   func() ([][]int64, bool) { r, _, ok := impl.PathDither(one, path[:1]); return r, ok },
		"BlockErrors":               func() ([][]int64, bool) { return impl.BlockErrors(p, dots, 1) },
		"BlockErrors of two blocks": func() ([][]int64, bool) { return impl.BlockErrors(p, dots, 2) },
		"ReadDots":                  func() ([][]int64, bool) { return impl.ReadDots("#..\n..#\n") },
		"ReadDots of one place":     func() ([][]int64, bool) { return impl.ReadDots("#\n") },
	} {
		checkNewRows(t, name, arguments, func() [][]int64 {
			rows, ok := call()
			if !ok {
				t.Errorf("%s fails", name)
			}
			return rows
		})
	}
}

func TestRowsOfDitheringCanGrow(t *testing.T) {
	mask, _ := impl.DoublingMask(2)
	kept := shown(mask[1:])
	mask[0] = append(mask[0], spare, spare)
	expect(t, "the next rows", shown(mask[1:]), kept)
}

func TestKernelOfReturnsNewTaps(t *testing.T) {
	for _, kind := range kinds() {
		first, _ := impl.KernelOf(kind)
		second, ok := impl.KernelOf(kind)
		kept := both(second, ok)
		taps := first.Taps[:cap(first.Taps)]
		for i := range taps {
			taps[i] = tap(spare, spare, spare)
		}
		expect(t, "after the first taps are overwritten", both(second, ok), kept)
		expect(t, "once more", both(impl.KernelOf(kind)), kept)
	}
}

func TestDitheringOfNilAndEmptyListsIsTheSame(t *testing.T) {
	one := picture(row(200))
	results := func(none []int64, rows [][]int64, taps []impl.Tap) string {
		all := ""
		for _, list := range [][][]int64{rows, {none}, {none, none}, {row(0), none}} {
			p := impl.Picture{Rows: list}
			all += shown(impl.ValidPicture(p), impl.IsMask(list), impl.IsPath(one, list), impl.IsPath(p, list)) + both(impl.DotsText(list)) + both(impl.SpreadOf(list, 2)) +
				both(impl.MaskDither(p, list)) + both(impl.MaskDither(one, list)) + three(impl.PathDither(p, list)) + three(impl.PathDither(one, list)) +
				both(impl.BlockErrors(p, list, 1)) + both(impl.BlockErrors(one, list, 1)) + both(impl.BlockErrors(p, [][]int64{{0}}, 1))
			for _, parts := range anyDens() {
				k := impl.Kernel{Parts: parts, Taps: taps}
				all += shown(impl.ValidKernel(k)) + three(impl.DiffuseDither(p, k, true)) + three(impl.DiffuseDither(one, k, true))
			}
		}
		return all
	}
	want := results(nil, nil, nil)
	expect(t, "nil and empty", results(nil, [][]int64{}, []impl.Tap{}), want)
	expect(t, "empty and nil", results([]int64{}, nil, nil), want)
	expect(t, "empty with capacity", results(make([]int64, 0, 4), make([][]int64, 0, 4), make([]impl.Tap, 0, 4)), want)
}
