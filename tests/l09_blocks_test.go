package tests

import (
	"math"
	"slices"
	"strconv"
	"strings"
	"testing"

	"loop.example/g01129/impl"
)

// The tests of this file are for promise 10: errors of blocks, and texts of dots.

// anyDots returns dots, of which about one of many is 1.
func (n *numbers) anyDots(rows, columns int, many int64) [][]int64 {
	list := n.list(rows*columns, 1, many)
	for i, k := range list {
		list[i] = 0
		if k == 1 {
			list[i] = 1
		}
	}
	return inRows(list, columns)
}

// blocksBy takes the rows and columns of each block out of a picture and its dots.
func blocksBy(p impl.Picture, dots [][]int64, size int) [][]int64 {
	var errors [][]int64
	for top := 0; top < len(dots); top += size {
		var across []int64
		for left := 0; left < len(dots[0]); left += size {
			sum := int64(0)
			for i := top; i < top+size; i++ {
				sum += sumOf(p.Rows[i][left:left+size]) - 255*sumOf(dots[i][left:left+size])
			}
			across = append(across, sum)
		}
		errors = append(errors, across)
	}
	return errors
}

// checkBlocks checks the errors of blocks of all sizes.
func checkBlocks(t *testing.T, p impl.Picture, dots [][]int64) {
	t.Helper()
	rows, columns := len(p.Rows), len(p.Rows[0])
	for size := 1; size <= 30; size++ {
		errors, ok := impl.BlockErrors(p, dots, int64(size))
		if rows%size != 0 || columns%size != 0 {
			expect(t, "no blocks "+shown(p, dots, size), both(errors, ok), noRows)
			continue
		}
		expect(t, "blocks "+shown(p, dots, size), both(errors, ok), both(blocksBy(p, dots, size), true))
		expect(t, "all blocks "+shown(p, dots, size), shown(sumOf(flat(p.Rows))), shown(255*sumOf(flat(dots))+sumOf(flat(errors))))
	}
}

func TestBlockErrors(t *testing.T) {
	rule := numbers(65)
	for rows := 1; rows <= 12; rows++ {
		for columns := 1; columns <= 12; columns++ {
			p := rule.anyPicture(rows, columns)
			checkBlocks(t, p, rule.anyDots(rows, columns, rule.next(1, 5)))
			checkBlocks(t, p, square(1, rows, columns))
			checkBlocks(t, p, square(0, rows, columns))
		}
	}
}

func TestBlocksOfOnePlaceAndOfTheWholePicture(t *testing.T) {
	p, dots := picture(row(10, 200, 30, 40), row(255, 0, 70, 80)), [][]int64{{0, 1, 0, 1}, {1, 1, 0, 0}}
	expect(t, "places", both(impl.BlockErrors(p, dots, 1)), "[[10 -55 30 -215] [0 -255 70 80]] true")
	expect(t, "squares", both(impl.BlockErrors(p, dots, 2)), "[[-300 -35]] true")
	expect(t, "one block", both(impl.BlockErrors(picture(row(1, 2), row(3, 4)), [][]int64{{0, 0}, {0, 1}}, 2)), "[[-245]] true")
	expect(t, "a column of blocks", both(impl.BlockErrors(picture(row(1, 2), row(3, 4), row(5, 6), row(7, 8)), square(0, 4, 2), 2)), "[[10] [26]] true")
	expect(t, "one place", both(impl.BlockErrors(picture(row(255)), [][]int64{{1}}, 1))+both(impl.BlockErrors(picture(row(255)), [][]int64{{0}}, 1))+both(impl.BlockErrors(picture(row(0)), [][]int64{{1}}, 1)), "[[0]] true[[255]] true[[-255]] true")
	expect(t, "MaxPicture", both(impl.BlockErrors(picture(square(255, 12, 12)...), square(0, 12, 12), 12))+both(impl.BlockErrors(picture(square(0, 12, 12)...), square(1, 12, 12), 12)), "[[36720]] true[[-36720]] true")
}

func TestTheErrorOfTheWholePictureIsWhatIsLostOrLeftOver(t *testing.T) {
	rule := numbers(66)
	for range 100 {
		rows := int(rule.next(1, 12))
		p, k := rule.anyPicture(rows, rows), rule.anyKernel()
		dots, lost, _ := impl.DiffuseDither(p, k, true)
		expect(t, "lost "+shown(p, k), both(impl.BlockErrors(p, dots, int64(rows))), both([][]int64{{lost}}, true))
		dots, last, _ := impl.PathDither(p, rule.anyPath(p))
		expect(t, "last "+shown(p), both(impl.BlockErrors(p, dots, int64(rows))), both([][]int64{{last}}, true))
	}
}

func TestSizesThatThereAreNotFail(t *testing.T) {
	sizes := append(extremes(), 13, 24, 1<<32, 1<<32+1, 1<<62)
	for _, p := range pictures() {
		dots := square(0, len(p.Rows), len(p.Rows[0]))
		for _, size := range sizes {
			if size < 1 || size > 12 {
				expect(t, "size "+shown(size), both(impl.BlockErrors(p, dots, size)), noRows)
			}
		}
	}
}

// noDots are rows that are not dots.
func noDots() [][][]int64 {
	all := [][][]int64{
		nil, {}, {nil}, {nil, nil}, {{}, {1}}, {{1}, {}}, {{1}, nil, {0}}, {{0, 1}, {1}}, {{0}, {1, 1}}, {{0, 1}, {1, 1}, {0}}, {{0, 1}, {1, 1, 0}}, {{0, 1, 1}, {1, 0}, {0, 0, 0}},
		square(1, 13, 1), square(0, 1, 13), square(1, 13, 13), square(0, 12, 13), square(0, 13, 12), square(1, 1, 3000), square(1, 3000, 1), append(square(0, 12, 12), row(0)), append(square(0, 11, 12), repeated(1, 13)), append(square(0, 11, 12), repeated(1, 11)),
	}
	for _, n := range []int64{-1, 2, 3, 35, 46, 255, 256, 1 << 32, 1<<32 + 1, -1 << 32, math.MinInt64, math.MaxInt64} {
		all = append(all, [][]int64{{n}}, [][]int64{{0, n}}, [][]int64{{n, 1}}, [][]int64{{1, 0}, {1, n}}, [][]int64{{0}, {n}, {1}}, append(square(1, 11, 12), append(repeated(0, 11), n)))
	}
	return all
}

func TestRowsThatAreNoDotsFail(t *testing.T) {
	for _, dots := range noDots() {
		expect(t, "no text "+shown(dots), both(impl.DotsText(dots)), noText)
		// Pictures with as many tones, if there are such.
		tones := slices.Clone(dots)
		for i, list := range tones {
			tones[i] = repeated(7, len(list))
		}
		for _, p := range []impl.Picture{picture(tones...), picture(row(7)), picture(row(7, 7)), picture(row(7), row(7))} {
			expect(t, "no blocks "+shown(p, dots), both(impl.BlockErrors(p, dots, 1)), noRows)
		}
	}
}

func TestDotsThatAreNotAsManyAsTonesFail(t *testing.T) {
	for _, p := range pictures() {
		rows, columns := len(p.Rows), len(p.Rows[0])
		for _, sides := range [][2]int{{rows + 1, columns}, {rows, columns + 1}, {rows - 1, columns}, {rows, columns - 1}, {columns, rows}, {rows * columns, 1}, {1, rows * columns}, {1, 1}, {12, 12}, {rows + 1, columns - 1}, {2 * rows, 2 * columns}} {
			if sides[0] == rows && sides[1] == columns {
				continue
			}
			expect(t, "sides "+shown(p, sides), both(impl.BlockErrors(p, square(1, sides[0], sides[1]), 1)), noRows)
		}
		for _, n := range []int64{-1, 2} {
			dots := append(square(0, rows-1, columns), append(repeated(1, columns-1), n))
			expect(t, "other numbers "+shown(p, n), both(impl.BlockErrors(p, dots, 1)), noRows)
		}
	}
}

// dotTexts are dots with their texts.
func dotTexts() map[string][][]int64 {
	return map[string][][]int64{
		"#\n": {{1}}, ".\n": {{0}}, "#.\n.#\n": {{1, 0}, {0, 1}}, "##.\n": {{1, 1, 0}}, "#\n#\n.\n": {{1}, {1}, {0}}, "..#\n###\n": {{0, 0, 1}, {1, 1, 1}},
		strings.Repeat(strings.Repeat("#", 12)+"\n", 12): square(1, 12, 12), strings.Repeat(strings.Repeat(".", 12)+"\n", 12): square(0, 12, 12), strings.Repeat(".", 12) + "\n": square(0, 1, 12), strings.Repeat("#\n", 12): square(1, 12, 1),
	}
}

func TestDotsTextAndReadDots(t *testing.T) {
	for text, dots := range dotTexts() {
		expect(t, "text of dots", both(impl.DotsText(dots)), both(text, true))
		expect(t, "dots of a text", both(impl.ReadDots(text)), both(dots, true))
	}
	rule := numbers(67)
	for rows := range 15 {
		for columns := range 15 {
			dots := square(0, rows, columns)
			if rows > 0 && columns > 0 {
				dots = rule.anyDots(rows, columns, 2)
			}
			text := ""
			for _, list := range dots {
				for _, dot := range list {
					text += string(".#"[dot])
				}
				text += "\n"
			}
			if rows < 1 || rows > 12 || columns < 1 || columns > 12 {
				expect(t, "no text "+shown(dots), both(impl.DotsText(dots)), noText)
				expect(t, "no dots "+strconv.Quote(text), both(impl.ReadDots(text)), noRows)
				continue
			}
			expect(t, "text "+shown(dots), both(impl.DotsText(dots)), both(text, true))
			expect(t, "dots "+strconv.Quote(text), both(impl.ReadDots(text)), both(dots, true))
		}
	}
}

// wrongDotTexts are texts that are nearly those of dots.
func wrongDotTexts() []string {
	wide, high := strings.Repeat("#", 13)+"\n", strings.Repeat(".\n", 13)
	return []string{
		"", "\n", "\n\n", "#", ".", "#.", "#.\n.#", "#.\n.#\n\n", "\n#.\n.#\n", "#.\n\n.#\n", "#\n\n", "#.\n.\n", "#\n.#\n", "#.\n.##\n", "#.\n.#\n#", "#.\n.#\n#.", "#.\n.#\n.\n", "##\n#\n##\n",
		"#.\r\n.#\r\n", "#\r\n", "#.\n.#\r", "#.\r.#\r", "#.\x00\n", "\x00", "#.\n.#\n\x00", "#. \n.# \n", " #.\n", "#.\n.#\n ", "#,\n", "#:\n", "1\n", "01\n10\n", "#0\n", "*.\n", "＃.\n", "#·\n", "#\xff\n", "\xff\xfe\n", "#.\\n", "#.|.#\n", "#.\v", "#.\f.#\n", "#.\u2028.#\n", "#\u0085", "#/.\n", "\"\n", "$\n", "-\n", "/\n",
		wide, high, strings.Repeat(wide, 12), strings.Repeat(wide, 13), strings.Repeat(strings.Repeat(".", 12)+"\n", 13), strings.Repeat("#", 3000) + "\n", strings.Repeat("#\n", 3000), strings.Repeat("\n", 3000), strings.Repeat("#.\n", 3000), strings.Repeat("#", 300000), strings.Repeat(strings.Repeat("#", 12)+"\n", 11) + strings.Repeat("#", 12),
	}
}

func TestTextsThatAreNoDotsFail(t *testing.T) {
	for _, s := range wrongDotTexts() {
		expect(t, strconv.Quote(s), both(impl.ReadDots(s))+shown(isDotText(s)), noRows+"false")
	}
	for b := range 256 {
		want := b == '#' || b == '.'
		for _, s := range []string{string([]byte{byte(b), '\n'}), string([]byte{'#', byte(b), '\n', byte(b), '.', '\n'})} {
			_, ok := impl.ReadDots(s)
			expect(t, strconv.Quote(s), shown(ok), shown(want))
		}
	}
}

// isDotText reports whether a text has 1 to 12 rows of as many marks, 1 to 12, each with an end.
func isDotText(s string) bool {
	rows := strings.Split(s, "\n")
	last := len(rows) - 1
	for _, marks := range rows[:last] {
		if len(marks) != len(rows[0]) || strings.Count(marks, "#")+strings.Count(marks, ".") != len(marks) {
			return false
		}
	}
	return rows[last] == "" && last >= 1 && last <= 12 && len(rows[0]) >= 1 && len(rows[0]) <= 12
}

func TestReadDotsOfChangedTexts(t *testing.T) {
	// What ReadDots takes is just what DotsText returns.
	for text := range dotTexts() {
		for i := range len(text) + 1 {
			for _, b := range []byte("#.\n\r 0") {
				changes := []string{text[:i] + string(b) + text[i:]}
				if i < len(text) {
					changes = append(changes, text[:i]+text[i+1:], text[:i]+string(b)+text[i+1:])
				}
				for _, s := range changes {
					dots, ok := impl.ReadDots(s)
					expect(t, "read "+strconv.Quote(s), shown(ok), shown(isDotText(s)))
					if !ok {
						expect(t, strconv.Quote(s), both(dots, ok), noRows)
						continue
					}
					expect(t, "the same text", both(impl.DotsText(dots)), both(s, true))
				}
			}
		}
	}
}
