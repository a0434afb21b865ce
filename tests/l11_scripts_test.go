package tests

import (
	"maps"
	"regexp"
	"slices"
	"strconv"
	"strings"
	"testing"

	"loop.example/g01129/impl"
)

// The tests of this file are for promise 13: scripts.

func TestExampleOfScript(t *testing.T) {
	d, output, ok := impl.RunDesk(impl.Desk{}, "set x 2:1,1,1\nset a 4:3,5\nrun x\nbest a\nshow y\nshow\ndrop x\n\nleaps 2 5\n")
	expect(t, "outputs", both(output, ok), both("ok\nok\n0,1,0\n1,1 1\nno\nwhat\nok\nwhat\n2,4\n", true))
	expect(t, "desk", shown(d), shown(desk("a 4:3,5")))
}

// model is a desk as a map by names. It answers lines as the table of the specification tells.
type model map[string]impl.Values

// modelOf returns the model of a desk.
func modelOf(d impl.Desk) model {
	m := model{}
	for i, name := range d.Names {
		m[name] = d.Lists[i]
	}
	return m
}

// desk returns the desk of a model.
func (m model) desk() impl.Desk {
	var d impl.Desk
	for _, name := range slices.Sorted(maps.Keys(m)) {
		d.Names = append(d.Names, name)
		d.Lists = append(d.Lists, m[name])
	}
	return d
}

// The forms of lines, of names and of numbers.
var (
	lineForm   = regexp.MustCompile(`(?s)\A(?:(set|leaps) ([^ ]*) ([^ ]*)|(drop|show|near|run|best|table) ([^ ]*)|(feed|word) ([^ ]*) ([^ ]*) ([^ ]*))\z`)
	nameForm   = regexp.MustCompile(`\A[a-z]{1,9}\z`)
	numberForm = regexp.MustCompile(`\A(0|-?[1-9][0-9]{0,9})\z`)
)

// numbersOf returns the numbers that words are, if they are numbers.
func numbersOf(words []string) ([]int64, bool) {
	var list []int64
	for _, word := range words {
		n, _ := strconv.ParseInt(word, 10, 64)
		if !numberForm.MatchString(word) || n < -1000000000 || n > 1000000000 {
			return nil, false
		}
		list = append(list, n)
	}
	return list, true
}

// answer carries out a line and returns the command that it begins with, and the output.
func (m model) answer(line string) (command, output string) {
	form := lineForm.FindStringSubmatch(line)
	if form == nil {
		return "", "what"
	}
	// Of the three kinds of lines, one has a command.
	var words []string
	switch {
	case form[1] != "":
		words = form[1:4]
	case form[4] != "":
		words = form[4:6]
	default:
		words = form[6:10]
	}
	var ok bool
	switch command = words[0]; command {
	case "set", "drop":
		output, ok = m.change(words)
	case "word", "leaps":
		output, ok = wordBy(words)
	case "table":
		output, ok = tableBy(words[1])
	default:
		output, ok = m.listBy(words)
	}
	if !ok {
		return command, "no"
	}
	return command, output
}

// change sets or drops a list.
func (m model) change(words []string) (string, bool) {
	_, known := m[words[1]]
	if words[0] == "drop" {
		delete(m, words[1])
		return "ok", known
	}
	v, ok := impl.ReadValues(words[2])
	if !ok || !nameForm.MatchString(words[1]) || !known && len(m) >= impl.MaxNamed {
		return "", false
	}
	m[words[1]] = v
	return "ok", true
}

// listBy answers a line with the name of a list.
func (m model) listBy(words []string) (string, bool) {
	v, known := m[words[1]]
	limits, areNumbers := numbersOf(words[2:])
	if !known || !areNumbers {
		return "", false
	}
	switch words[0] {
	case "show":
		return strconv.FormatInt(v.Den, 10) + ":" + listBy(v.Nums), true
	case "near":
		list, ok := impl.NearestOf(v)
		return listBy(list), ok
	case "run":
		list, ok := impl.PrefixFloors(v)
		return listBy(list), ok
	case "best":
		list, most, ok := impl.BestRunning(v)
		return listBy(list) + " " + strconv.FormatInt(most, 10), ok
	}
	levels, left, ok := impl.FeedbackOf(v, limits[0], limits[1])
	return listBy(levels) + " " + listBy(left), ok
}

// wordBy answers a line with numbers alone.
func wordBy(words []string) (string, bool) {
	list, ok := numbersOf(words[1:])
	if !ok || list[0] < 0 || list[0] > list[1] || list[1] < 1 {
		return "", false
	}
	if words[0] == "word" {
		if list[1] > impl.MaxDen || list[2] < 0 || list[2] > impl.MaxLetters {
			return "", false
		}
		return lineOf(list[0], list[1], 0, list[2]), true
	}
	if list[1] > impl.MaxCycle || list[0] > impl.MaxItems {
		return "", false
	}
	return listBy(leapsOf(lineOf(list[0], list[1], 0, list[1]))), true
}

// tableBy answers a line with a table.
func tableBy(text string) (string, bool) {
	x, isTable := impl.ReadTable(text)
	rows, isRounded := impl.RoundTable(x)
	var parts []string
	for _, list := range rows {
		parts = append(parts, listBy(list))
	}
	return strings.Join(parts, "/"), isTable && isRounded
}

// run carries out the lines of a script, and counts how often a command was carried out, refused or not known.
func (m model) run(script string, counts map[string]int) string {
	var outputs strings.Builder
	for _, line := range strings.SplitAfter(script, "\n") {
		if line == "" {
			continue
		}
		command, output := m.answer(strings.TrimSuffix(line, "\n"))
		outputs.WriteString(output + "\n")
		if output == "no" {
			command += " refused"
		}
		counts[command]++
	}
	return outputs.String()
}

// pick returns one of some texts.
func (n *numbers) pick(texts ...string) string { return texts[n.next(0, int64(len(texts))-1)] }

// anyNameWord returns a word that is mostly a name.
func (n *numbers) anyNameWord() string {
	if n.next(1, 12) == 1 {
		return n.pick("", "A", "abcdefghij", "x1", "é", "-", "b\t", "1")
	}
	return n.pick("a", "b", "c", "x", "y", "z", "xy", "list", "zzzzzzzzz", "abcdefghi", "set", "ok")
}

// anyNumberWord returns a word that is mostly a small number.
func (n *numbers) anyNumberWord() string {
	if n.next(1, 20) == 1 {
		return n.pick("", "+1", "01", "-0", "x", "1.0", "1000000000", "1000000001", "-1000000001", "99999999999999999999", "0x1", "1000", "1001", "-1000")
	}
	if n.next(1, 4) == 1 {
		return strconv.FormatInt(n.next(-3, 130), 10)
	}
	return strconv.FormatInt(n.next(0, 12), 10)
}

// anyValuesWord returns a word that is mostly the text of values.
func (n *numbers) anyValuesWord() string {
	if n.next(1, 10) == 1 {
		return n.pick("", "1", "1:", ":1", "0:1", "1001:1", "1:1,", "1:01", "1:1000001", "1:1/1", "x", "-", "1:"+manyOnes(41))
	}
	v := values(n.next(1, 9), n.list(int(n.next(0, 7)), -20, 20)...)
	return strconv.FormatInt(v.Den, 10) + ":" + listBy(v.Nums)
}

// anyTableWord returns a word that is mostly the text of a table.
func (n *numbers) anyTableWord() string {
	if n.next(1, 6) == 1 {
		return n.pick("", "2", "2:-", "2:1,1/1", "2:-1", "0:1", "2:1/", "2:100001", "2:1,1,1,1,1,1")
	}
	text, _ := impl.TableText(n.anyTable(int(n.next(1, 3)), int(n.next(1, 3)), 14))
	return text
}

// anyCommand returns a line that is mostly in a form of the table.
func (n *numbers) anyCommand() string {
	switch n.next(0, 12) {
	case 0, 1, 2:
		return "set " + n.anyNameWord() + " " + n.anyValuesWord()
	case 3:
		return "drop " + n.anyNameWord()
	case 4, 5, 6, 7:
		return n.pick("show", "near", "run", "best") + " " + n.anyNameWord()
	case 8, 9:
		return "feed " + n.anyNameWord() + " " + n.anyNumberWord() + " " + n.anyNumberWord()
	case 10:
		return "table " + n.anyTableWord()
	case 11:
		return "word " + n.anyNumberWord() + " " + n.anyNumberWord() + " " + n.anyNumberWord()
	}
	return "leaps " + n.anyNumberWord() + " " + n.anyNumberWord()
}

// anyLine returns a line, which sometimes is nearly right only.
func (n *numbers) anyLine() string {
	line := n.anyCommand()
	at := int(n.next(0, int64(len(line))-1))
	switch n.next(1, 40) {
	case 1:
		return line[:at] + " " + line[at:]
	case 2:
		return line[:at] + line[at+1:]
	case 3:
		return line[:at] + n.pick("A", "é", "\t", "0", ",", "\x00", "\xff", "z") + line[at+1:]
	case 4:
		return line + n.pick(" ", " 1", "  ", "\r", " x y")
	case 5:
		return n.pick("", " ", "what", "help") + n.pick("", line)
	case 6:
		return strings.ToUpper(line[:1]) + line[1:]
	case 7:
		return line[:strings.LastIndexByte(line, ' ')]
	}
	return line
}

// anyScript returns a script of at most some lines.
func (n *numbers) anyScript(most int64) string {
	script := ""
	for range n.next(0, most) {
		if line := n.anyLine() + "\n"; len(script)+len(line) <= impl.MaxScript {
			script += line
		}
	}
	return script
}

// checkScript checks a script at a desk against the model, as a whole, line by line, and in two parts.
func checkScript(t *testing.T, d impl.Desk, script string, cuts []int, counts map[string]int) {
	t.Helper()
	m := modelOf(d)
	outputs := m.run(script, counts)
	want := three(m.desk(), outputs, true)
	expect(t, "script "+strconv.Quote(script), three(impl.RunDesk(d, script)), want)
	each, alone := d, ""
	for _, line := range strings.SplitAfter(script, "\n") {
		if line == "" {
			continue
		}
		next, output, ok := impl.DeskCommand(each, line[:len(line)-1])
		expect(t, "valid behind "+strconv.Quote(line), shown(ok, impl.ValidDesk(next)), "true true")
		each, alone = next, alone+output+"\n"
	}
	expect(t, "line by line "+strconv.Quote(script), three(each, alone, true), want)
	for _, cut := range cuts {
		middle, first, ok := impl.RunDesk(d, script[:cut])
		last, second, alsoOK := impl.RunDesk(middle, script[cut:])
		expect(t, "in two parts "+strconv.Quote(script), three(last, first+second, ok && alsoOK), want)
	}
}

// lineEnds returns all places behind a line of a script, and the one before the first line.
func lineEnds(script string) []int {
	ends := []int{0}
	for i := range len(script) {
		if script[i] == '\n' {
			ends = append(ends, i+1)
		}
	}
	return ends
}

func TestScripts(t *testing.T) {
	rule := numbers(142)
	counts := map[string]int{}
	for i := range 1000 {
		d := validDesks()[i%8]
		script := rule.anyScript(25)
		checkScript(t, d, script, lineEnds(script)[:1], counts)
	}
	for i := range 60 {
		script := rule.anyScript(15)
		checkScript(t, validDesks()[i%8], script, lineEnds(script), counts)
	}
	for _, command := range []string{"set", "drop", "show", "near", "run", "best", "feed", "table", "word", "leaps"} {
		expect(t, command+" carried out and refused: "+shown(counts), shown(counts[command] > 60, counts[command+" refused"] > 60), "true true")
	}
	expect(t, "lines that are unknown", shown(counts[""] > 500), "true")
}

func TestLongScripts(t *testing.T) {
	rule := numbers(143)
	counts := map[string]int{}
	for range 30 {
		script := rule.anyScript(2000)
		ends := lineEnds(script)
		checkScript(t, impl.Desk{}, script, []int{ends[len(ends)/3], ends[len(ends)-1]}, counts)
	}
	long := "set x 1000:" + strings.Repeat("999999,", 39) + "-1000000\n"
	for _, line := range []string{"show x\n", "near x\n", "run x\n", "best x\n", "feed x -1000 1000\n", "drop y\n", "\n", "table 7:1,2,3,4,5/1,2,3,4,5/1,2,3,4,5/1,2,3,4,5/1,2,3,4,5\n", "word 500 999 120\n", "leaps 40 399\n"} {
		checkScript(t, impl.Desk{}, long+strings.Repeat(line, (impl.MaxScript-len(long))/len(line)), nil, counts)
	}
}

func TestScriptsOfNoLinesAndOfEmptyOnes(t *testing.T) {
	for _, d := range validDesks() {
		expect(t, "no lines", three(impl.RunDesk(d, "")), three(d, "", true))
		expect(t, "an empty line", three(impl.RunDesk(d, "\n")), three(d, "what\n", true))
		expect(t, "empty lines", three(impl.RunDesk(d, "\n\n\n")), three(d, "what\nwhat\nwhat\n", true))
		expect(t, "empty lines and another one", three(impl.RunDesk(d, "\nword 2 5 5\n\n")), three(d, "what\naabab\nwhat\n", true))
		expect(t, "an output without letters", three(impl.RunDesk(d, "word 2 5 0\nword 2 5 1\n")), three(d, "\na\n", true))
		expect(t, "other ends of lines", three(impl.RunDesk(d, "word 2 5 5\r\nword 2 5 5\vword 2 5 5\n")), three(d, "no\nwhat\n", true))
	}
}

func TestScriptsWithoutTheLastEndFail(t *testing.T) {
	for _, script := range []string{"show b", " ", "x", "\r", "\x00", "\n ", "show b\nshow b", "show b\n\nx", "set x 1:1\ndrop x", "show b\n\r", strings.Repeat("\n", 3999) + "x", strings.Repeat("x", 4000)} {
		expect(t, strconv.Quote(script), three(impl.RunDesk(someDesk(), script)), noDesk)
	}
}

func TestScriptsOfMaxScriptBytes(t *testing.T) {
	d := someDesk()
	for script, output := range map[string]string{
		strings.Repeat("\n", 4000):                                         strings.Repeat("what\n", 4000),
		strings.Repeat("x", 3999) + "\n":                                   "what\n",
		strings.Repeat("word 2 5\n", 440) + strings.Repeat(" ", 39) + "\n": strings.Repeat("what\n", 441),
		strings.Repeat("near b\n", 570) + "show b   \n":                    strings.Repeat("0,0,0\n", 570) + "what\n",
		strings.Repeat("set x 1:1\ndrop x\n", 235) + "set \n":              strings.Repeat("ok\nok\n", 235) + "what\n",
	} {
		what := strconv.Quote(script[:9])
		expect(t, what, shown(len(script))+three(impl.RunDesk(d, script)), "4000"+three(d, output, true))
		expect(t, "one byte more than "+what, three(impl.RunDesk(d, script+"\n"))+three(impl.RunDesk(d, "\n"+script)), noDesk+noDesk)
	}
	for _, script := range []string{strings.Repeat("x", 4000) + "\n", strings.Repeat("near b\n", 572), strings.Repeat("near b\n", 10000), strings.Repeat("\n", 1000000)} {
		expect(t, "more bytes "+shown(len(script)), three(impl.RunDesk(d, script)), noDesk)
	}
}
