package tests

import (
	"slices"
	"strconv"
	"strings"
	"testing"

	"loop.example/g01129/impl"
)

// The tests of this file are for promise 13: desks and single lines.

// noDesk is what calls that fail must return.
var noDesk = shown(impl.Desk{}, "", false)

// desk makes a desk of names, each with a blank and the text of its values behind it.
func desk(entries ...string) impl.Desk {
	var d impl.Desk
	for _, entry := range entries {
		name, text, _ := strings.Cut(entry, " ")
		v, _ := impl.ReadValues(text)
		d.Names = append(d.Names, name)
		d.Lists = append(d.Lists, v)
	}
	return d
}

// someDesk has lists with names in front of, between and behind which there can be others.
func someDesk() impl.Desk { return desk("b 2:1,1,1", "d 4:3,5", "f 1:-") }

// fullDesk has MaxNamed lists.
func fullDesk() impl.Desk {
	return desk("b 1:1", "d 1:2", "f 1:3", "h 1:4", "j 1:5", "lllllllll 1:6")
}

// validDesks are desks of all kinds.
func validDesks() []impl.Desk {
	all := []impl.Desk{{}, {Names: []string{}, Lists: []impl.Values{}}, someDesk(), fullDesk(), desk("a 1:1"), desk("zzzzzzzzz 1:1"), desk("a 1:1", "aa 1:1", "ab 1:1", "b 1:1"), desk("a 1:-", "aaaaaaaaa 1:-", "z 1:-")}
	for _, v := range validValues() {
		all = append(all, impl.Desk{Names: []string{"x"}, Lists: []impl.Values{v}}, impl.Desk{Names: strings.Split("abcdef", ""), Lists: slices.Repeat([]impl.Values{v}, 6)})
	}
	return all
}

// noDesks are desks that are not valid.
func noDesks() []impl.Desk {
	one := values(2, 1)
	all := []impl.Desk{
		{Names: []string{"a"}}, {Lists: []impl.Values{one}}, {Names: []string{"a", "b"}, Lists: []impl.Values{one}}, {Names: []string{"a"}, Lists: []impl.Values{one, one}}, {Names: strings.Split("abcdef", ""), Lists: slices.Repeat([]impl.Values{one}, 7)}, {Names: strings.Split("abcdefg", ""), Lists: slices.Repeat([]impl.Values{one}, 6)},
		{Names: strings.Split("abcdefg", ""), Lists: slices.Repeat([]impl.Values{one}, 7)}, {Names: strings.Split("abcdefghijklmnopqrstuvwxyz", ""), Lists: slices.Repeat([]impl.Values{one}, 26)}, {Names: slices.Repeat([]string{"a"}, 3000), Lists: slices.Repeat([]impl.Values{one}, 3000)},
		desk("b 2:1", "a 2:1"), desk("a 2:1", "a 2:1"), desk("a 2:1", "c 2:1", "b 2:1"), desk("a 2:1", "b 2:1", "b 2:1"), desk("aa 2:1", "a 2:1"), desk("b 2:1", "aa 2:1"), desk("a 2:1", "b 2:1", "c 2:1", "d 2:1", "e 2:1", "a 2:1"),
	}
	for _, name := range []string{"", "A", "abcdefghij", "a1", "1", "é", "a b", " a", "a ", "a\n", "\x00", "\xff", "`", "{", "-", strings.Repeat("x", 5000)} {
		all = append(all, impl.Desk{Names: []string{name}, Lists: []impl.Values{one}}, impl.Desk{Names: []string{"A", name}, Lists: []impl.Values{one, one}}, impl.Desk{Names: []string{name, "zz"}, Lists: []impl.Values{one, one}})
	}
	for _, v := range invalidValues() {
		all = append(all, impl.Desk{Names: []string{"a"}, Lists: []impl.Values{v}}, impl.Desk{Names: []string{"a", "b"}, Lists: []impl.Values{v, one}}, impl.Desk{Names: []string{"a", "b"}, Lists: []impl.Values{one, v}}, impl.Desk{Names: strings.Split("abcdef", ""), Lists: append(slices.Repeat([]impl.Values{one}, 5), v)})
	}
	return all
}

func TestValidDesk(t *testing.T) {
	for _, d := range validDesks() {
		expect(t, "valid "+shown(d), shown(impl.ValidDesk(d)), "true")
	}
	for _, d := range noDesks() {
		expect(t, "not valid "+shown(d), shown(impl.ValidDesk(d)), "false")
	}
}

func TestDesksThatAreNotValidFail(t *testing.T) {
	for _, d := range noDesks() {
		for _, line := range []string{"", "show a", "set a 1:1", "drop a", "drop b", "what", "word 2 5 5"} {
			expect(t, line+" at "+shown(d), three(impl.DeskCommand(d, line)), noDesk)
			expect(t, "script "+line+" at "+shown(d), three(impl.RunDesk(d, line+"\n")), noDesk)
		}
		expect(t, "no script at "+shown(d), three(impl.RunDesk(d, "")), noDesk)
	}
}

// checkLine checks the output of a line and the desk after it, for the line alone and as a script.
func checkLine(t *testing.T, d impl.Desk, line, output string, after impl.Desk) {
	t.Helper()
	what := strconv.Quote(line) + " at " + shown(d)
	expect(t, what, three(impl.DeskCommand(d, line)), three(after, output, true))
	if !strings.Contains(line, "\n") && len(line) < impl.MaxScript {
		expect(t, what+" as a script", three(impl.RunDesk(d, line+"\n")), three(after, output+"\n", true))
	}
}

func TestLinesThatTellAnOutput(t *testing.T) {
	forty := impl.Decimal(0)
	for n := int64(1); n < 40; n++ {
		forty += "," + impl.Decimal(n)
	}
	tenths := impl.Decimal(9)
	for n := int64(19); n < 400; n += 10 {
		tenths += "," + impl.Decimal(n)
	}
	for line, output := range map[string]string{
		"show b": "2:1,1,1", "show d": "4:3,5", "show f": "1:-",
		"near b": "0,0,0", "near d": "1,1", "near f": "-",
		"run b": "0,1,0", "run d": "0,2", "run f": "-",
		"best b": "0,1,0 1", "best d": "1,1 1", "best f": "- 0",
		"feed b 0 1": "0,1,0 1,0,1", "feed d 0 1": "1,1 -1,0", "feed f 0 1": "- -", "feed b -1000 1000": "0,1,0 1,0,1", "feed b 2 2": "2,2,2 -3,-6,-9", "feed b -1 0": "0,0,0 1,2,3", "feed d -1000 -1000": "-1000,-1000 4003,8008", "feed d 1000 1000": "1000,1000 -3997,-7992", "feed b 0 0": "0,0,0 1,2,3",
		"table 2:1,1/1,1": "0,1/1,0", "table 2:1": "0", "table 2:1/1": "0/1", "table 2:1,1": "0,1", "table 1:5,6": "5,6", "table 3:1,1,1/1,1,1/1,1,1": "0,0,1/0,1,0/1,0,0", "table 1000:0": "0", "table 1:100000,0,0,0,0/0,0,0,0,0/0,0,0,0,0/0,0,0,0,0/0,0,0,0,1": "100000,0,0,0,0/0,0,0,0,0/0,0,0,0,0/0,0,0,0,0/0,0,0,0,1",
		"word 2 5 5": "aabab", "word 2 5 0": "", "word 0 1 0": "", "word 0 1 3": "aaa", "word 1 1 3": "bbb", "word 1 1 120": strings.Repeat("b", 120), "word 2 5 12": "aababaababaa", "word 1000 1000 2": "bb", "word 1 1000 3": "aaa", "word 999 1000 3": "abb",
		"leaps 2 5": "2,4", "leaps 0 5": "-", "leaps 5 5": "0,1,2,3,4", "leaps 0 1": "-", "leaps 1 1": "0", "leaps 0 400": "-", "leaps 1 400": "399", "leaps 40 400": tenths, "leaps 40 40": forty, "leaps 8 33": "4,8,12,16,20,24,28,32",
	} {
		checkLine(t, someDesk(), line, output, someDesk())
	}
}

func TestLinesOnLongLists(t *testing.T) {
	// 40 halves.
	d := desk("x 2:" + strings.Repeat("1,", 39) + "1")
	zeros := strings.Repeat("0,", 39) + "0"
	turns := strings.Repeat("0,1,", 19) + "0,1"
	left := strings.Repeat("1,0,", 19) + "1,0"
	checkLine(t, d, "near x", zeros, d)
	checkLine(t, d, "run x", turns, d)
	checkLine(t, d, "best x", turns+" 1", d)
	checkLine(t, d, "feed x 0 1", turns+" "+left, d)
	large := desk("x 1:" + strings.Repeat("-1000000,", 39) + "1000000")
	checkLine(t, large, "near x", strings.Repeat("-1000000,", 39)+"1000000", large)
	checkLine(t, large, "run x", strings.Repeat("-1000000,", 39)+"1000000", large)
	checkLine(t, large, "best x", strings.Repeat("-1000000,", 39)+"1000000 0", large)
	checkLine(t, large, "show x", "1:"+strings.Repeat("-1000000,", 39)+"1000000", large)
}

// refusedLines are lines in a form of the table that cannot be carried out at someDesk, each for one reason.
func refusedLines() []string {
	lines := []string{
		// No list with the name.
		"show c", "show ", "show B", "show bb", "show b\n", "show b\t", "show \x00", "show é", "show 2:1,1,1", "show a", "show g", "near c", "near ", "near B", "run c", "run ", "run B", "best c", "best ", "best B", "feed c 0 1", "feed  0 1", "feed B 0 1", "drop c", "drop ", "drop B", "drop bb", "drop b\n", "drop a", "drop g",
		// No name.
		"set  1:1", "set X 1:1", "set abcdefghij 1:1", "set x1 1:1", "set é 1:1", "set x\n 1:1", "set 1 1:1", "set - 1:1", "set " + strings.Repeat("x", 3000) + " 1:1",
		// No values.
		"set x ", "set b ", "set  ", "set x 1", "set x 1:", "set x :1", "set x 1:1,", "set x 0:1", "set x -1:1", "set x 1001:1", "set x 1:01", "set x 01:1", "set x +1:1", "set x 1:1000001", "set x 1:-1000001", "set x 1:1/1", "set x x", "set x 1:1\n", "set x 1:\t1", "set x 1:" + strings.Repeat("1,", 40) + "1", "set b 1:x", "set b 0:1",
		// No numbers.
		"feed b  1", "feed b 0 ", "feed b  ", "feed b x 1", "feed b 0 x", "feed b +0 1", "feed b 0 +1", "feed b -0 1", "feed b 00 1", "feed b 0 01", "feed b 0.0 1", "feed b 0 1\n", "feed b 0 1000000001", "feed b -1000000001 1", "feed b 0 99999999999999999999", "feed b ٠ 1",
		"word  5 5", "word 2  5", "word 2 5 ", "word   ", "word x 5 5", "word 2 x 5", "word 2 5 x", "word +2 5 5", "word 02 5 5", "word 2 05 5", "word 2 5 05", "word 2 5 5\n", "word 2/5 0 5", "leaps  5", "leaps 2 ", "leaps  ", "leaps x 5", "leaps 2 x", "leaps +2 5", "leaps 02 5", "leaps 2 05", "leaps 2 5\n",
		// What is named fails.
		"feed b 1 0", "feed b 0 -1", "feed b -1001 0", "feed b 0 1001", "feed b 1001 1001", "feed b -1001 -1001", "feed b -1000000000 1000000000", "feed f 1 0", "feed f 0 1001",
		"word 6 5 5", "word -1 5 5", "word 0 0 0", "word 0 0 5", "word 1 -5 5", "word 2 1001 5", "word 2 5 121", "word 2 5 -1", "word 1000000000 1000000000 5", "word 2 5 1000000000",
		"leaps 6 5", "leaps -1 5", "leaps 0 0", "leaps 1 0", "leaps 0 -5", "leaps 0 401", "leaps 2 401", "leaps 401 401", "leaps 1000000000 1000000000",
		// More leap years than a list has numbers.
		"leaps 41 41", "leaps 41 400", "leaps 97 400", "leaps 400 400",
		"table ", "table x", "table 2", "table 2:", "table 2:-", "table 2:1,1/1", "table 2:1/", "table /2:1", "table 0:1", "table 1001:1", "table 2:-1", "table 2:100001", "table 2:01", "table 2:1,1,1,1,1,1", "table 2:1/1/1/1/1/1", "table 2:1\n", "table b",
	}
	return lines
}

func TestLinesThatAreRefused(t *testing.T) {
	for _, line := range refusedLines() {
		checkLine(t, someDesk(), line, "no", someDesk())
	}
}

// unknownLines are lines in no form of the table.
func unknownLines() []string {
	lines := []string{
		"", " ", "  ", "   ", "    ", "\t", "\n", "\x00", "\xff", "ok", "no", "what", "b", "help", "fly", "show\tb", "show\nb", "show\u00a0b", "show\x00b", "set\tx 1:1", "2:1,1,1", "b 2:1", "drops b", "sho b", "howb b", "showb", "word2 5 5", "x set b 1:1", "quit", "é b", strings.Repeat(" ", 5000), strings.Repeat("x", 5000), "show " + strings.Repeat("b ", 3000), "word 2 5 5" + strings.Repeat(" 5", 3000),
	}
	for _, line := range []string{"set b 1:1", "drop b", "show b", "near b", "run b", "best b", "feed b 0 1", "table 2:1", "word 2 5 5", "leaps 2 5"} {
		word, rest, _ := strings.Cut(line, " ")
		lines = append(lines,
			" "+line, line+" ", line+" b", line+" 1", word+"  "+rest, "  "+line, line+"  ", line+" \n", line+" x y z",
			word, word+"\n", word+"b "+rest, strings.ToUpper(word)+" "+rest, strings.ToUpper(word[:1])+word[1:]+" "+rest, word[:len(word)-1]+strings.ToUpper(word[len(word)-1:])+" "+rest, word[1:]+" "+rest, word[:len(word)-1]+" "+rest, word+"\t"+strings.ReplaceAll(rest, " ", "\t"), "\n"+line, "\t"+line, word+":"+rest, "é"+line, word+"\u00a0"+rest, "-"+line,
		)
		if cut := strings.LastIndexByte(line, ' '); strings.Count(line, " ") > 1 {
			lines = append(lines, line[:cut], line[:cut]+"  "+line[cut+1:])
		}
	}
	return lines
}

func TestLinesThatAreUnknown(t *testing.T) {
	for _, line := range unknownLines() {
		checkLine(t, someDesk(), line, "what", someDesk())
	}
}

func TestSet(t *testing.T) {
	d := someDesk()
	for line, after := range map[string]impl.Desk{
		"set a 1:5":                    desk("a 1:5", "b 2:1,1,1", "d 4:3,5", "f 1:-"),
		"set aaaaaaaaa 1000:-1000000":  desk("aaaaaaaaa 1000:-1000000", "b 2:1,1,1", "d 4:3,5", "f 1:-"),
		"set bb 1:5":                   desk("b 2:1,1,1", "bb 1:5", "d 4:3,5", "f 1:-"),
		"set c 3:1,2":                  desk("b 2:1,1,1", "c 3:1,2", "d 4:3,5", "f 1:-"),
		"set e 1:-":                    desk("b 2:1,1,1", "d 4:3,5", "e 1:-", "f 1:-"),
		"set g 4:2":                    desk("b 2:1,1,1", "d 4:3,5", "f 1:-", "g 4:2"),
		"set zzzzzzzzz 1:0":            desk("b 2:1,1,1", "d 4:3,5", "f 1:-", "zzzzzzzzz 1:0"),
		"set b 1:7":                    desk("b 1:7", "d 4:3,5", "f 1:-"),
		"set d 1:7,8":                  desk("b 2:1,1,1", "d 1:7,8", "f 1:-"),
		"set f 6:4,3,2":                desk("b 2:1,1,1", "d 4:3,5", "f 6:4,3,2"),
		"set b 2:1,1,1":                someDesk(),
		"set set 1:1":                  desk("b 2:1,1,1", "d 4:3,5", "f 1:-", "set 1:1"),
		"set x 1:" + manyOnes(40):      desk("b 2:1,1,1", "d 4:3,5", "f 1:-", "x 1:"+manyOnes(40)),
		"set x 1000:1000000,-1000000":  desk("b 2:1,1,1", "d 4:3,5", "f 1:-", "x 1000:1000000,-1000000"),
		"set show 1:1":                 desk("b 2:1,1,1", "d 4:3,5", "f 1:-", "show 1:1"),
		"set ok 4:6":                   desk("b 2:1,1,1", "d 4:3,5", "f 1:-", "ok 4:6"),
		"set abcdefghi 2:-1":           desk("abcdefghi 2:-1", "b 2:1,1,1", "d 4:3,5", "f 1:-"),
		"set d 1000:" + manyOnes(40):   desk("b 2:1,1,1", "d 1000:"+manyOnes(40), "f 1:-"),
		"set f 1000:0,0,0,-1,999,1000": desk("b 2:1,1,1", "d 4:3,5", "f 1000:0,0,0,-1,999,1000"),
	} {
		checkLine(t, d, line, "ok", after)
	}
	checkLine(t, impl.Desk{}, "set a 2:1", "ok", desk("a 2:1"))
	checkLine(t, impl.Desk{}, "set zzzzzzzzz 1:-", "ok", desk("zzzzzzzzz 1:-"))
}

// manyOnes is the text of a list of some numbers 1.
func manyOnes(count int) string { return strings.Repeat("1,", count-1) + "1" }

func TestSetAtFullDesks(t *testing.T) {
	full := fullDesk()
	for _, line := range []string{"set a 1:9", "set c 1:9", "set k 1:9", "set z 1:9", "set bb 1:9", "set llllllll 1:9", "set X 1:9", "set  1:9"} {
		checkLine(t, full, line, "no", full)
	}
	for i, name := range full.Names {
		after := fullDesk()
		after.Lists[i] = values(3, 9)
		checkLine(t, full, "set "+name+" 3:9", "ok", after)
		checkLine(t, full, "set "+name+" 3:x", "no", full)
		// Without one of its lists, the desk has room for another one.
		_, output, ok := impl.RunDesk(full, "drop "+name+"\nset y 1:9\nset z 1:9\n"+"set "+name+" 1:1\nset y 1:8\n")
		expect(t, "one list less and one more", both(output, ok), both("ok\nok\nno\nno\nok\n", true))
	}
	// The last one that there is room for.
	five := desk("b 1:1", "d 1:2", "f 1:3", "h 1:4", "j 1:5")
	checkLine(t, five, "set a 1:9", "ok", desk("a 1:9", "b 1:1", "d 1:2", "f 1:3", "h 1:4", "j 1:5"))
	checkLine(t, five, "set g 1:9", "ok", desk("b 1:1", "d 1:2", "f 1:3", "g 1:9", "h 1:4", "j 1:5"))
	checkLine(t, five, "set z 1:9", "ok", desk("b 1:1", "d 1:2", "f 1:3", "h 1:4", "j 1:5", "z 1:9"))
}

func TestDrop(t *testing.T) {
	checkLine(t, someDesk(), "drop b", "ok", desk("d 4:3,5", "f 1:-"))
	checkLine(t, someDesk(), "drop d", "ok", desk("b 2:1,1,1", "f 1:-"))
	checkLine(t, someDesk(), "drop f", "ok", desk("b 2:1,1,1", "d 4:3,5"))
	checkLine(t, desk("x 2:1"), "drop x", "ok", impl.Desk{})
	checkLine(t, impl.Desk{}, "drop x", "no", impl.Desk{})
	full := fullDesk()
	for i, name := range full.Names {
		after := fullDesk()
		after.Names, after.Lists = slices.Delete(after.Names, i, i+1), slices.Delete(after.Lists, i, i+1)
		checkLine(t, full, "drop "+name, "ok", after)
	}
}

func TestDesksWithoutListsAndFullOnes(t *testing.T) {
	for _, word := range []string{"show", "near", "run", "best", "drop"} {
		checkLine(t, impl.Desk{}, word+" b", "no", impl.Desk{})
		checkLine(t, impl.Desk{}, word+" ", "no", impl.Desk{})
	}
	checkLine(t, impl.Desk{}, "feed b 0 1", "no", impl.Desk{})
	checkLine(t, impl.Desk{}, "table 2:1/1", "0/1", impl.Desk{})
	checkLine(t, impl.Desk{}, "word 2 5 5", "aabab", impl.Desk{})
	checkLine(t, impl.Desk{}, "leaps 2 5", "2,4", impl.Desk{})
	checkLine(t, impl.Desk{}, "", "what", impl.Desk{})
	full := fullDesk()
	for i, name := range full.Names {
		n := impl.Decimal(int64(i) + 1)
		checkLine(t, full, "show "+name, "1:"+n, full)
		checkLine(t, full, "near "+name, n, full)
		checkLine(t, full, "run "+name, n, full)
		checkLine(t, full, "best "+name, n+" 0", full)
		checkLine(t, full, "feed "+name+" 0 6", n+" 0", full)
	}
}

func TestLinesTellWhatTheFunctionsTell(t *testing.T) {
	rule := numbers(140)
	for range 500 {
		v := values(rule.next(1, 12), rule.list(int(rule.next(0, 40)), -40, 40)...)
		d := impl.Desk{Names: []string{"a", "x"}, Lists: []impl.Values{values(1), v}}
		text, _ := impl.ValuesText(v)
		near, _ := impl.NearestOf(v)
		run, _ := impl.PrefixFloors(v)
		best, most, _ := impl.BestRunning(v)
		low := rule.next(-3, 3)
		high := low + rule.next(0, 3)
		levels, left, _ := impl.FeedbackOf(v, low, high)
		for line, output := range map[string]string{
			"show x": text, "near x": listBy(near), "run x": listBy(run), "best x": listBy(best) + " " + strconv.FormatInt(most, 10),
			"feed x " + strconv.FormatInt(low, 10) + " " + strconv.FormatInt(high, 10): listBy(levels) + " " + listBy(left),
		} {
			checkLine(t, d, line, output, d)
		}
	}
}

// listBy is the text of a list.
func listBy(list []int64) string {
	if len(list) == 0 {
		return "-"
	}
	var parts []string
	for _, n := range list {
		parts = append(parts, strconv.FormatInt(n, 10))
	}
	return strings.Join(parts, ",")
}

func TestTablesOfLinesAreRounded(t *testing.T) {
	rule := numbers(141)
	for range 300 {
		x := rule.anyTable(int(rule.next(1, impl.MaxSide)), int(rule.next(1, impl.MaxSide)), 14)
		text, _ := impl.TableText(x)
		rows, _ := impl.RoundTable(x)
		var parts []string
		for _, list := range rows {
			parts = append(parts, listBy(list))
		}
		checkLine(t, impl.Desk{}, "table "+text, strings.Join(parts, "/"), impl.Desk{})
	}
}
