package tests

import (
	"fmt"
	"slices"
	"strconv"
	"strings"
	"testing"

	"loop.example/g01129/impl"
)

// The tests of this file are for promise 12: journals.

// recovered shows what RecoverJournal returns, with quotes around each line.
func recovered(lines []string, length int64, ok bool) string {
	return shown(fmt.Sprintf("%q", lines), length, ok)
}

// noJournal is what RecoverJournal must return if it fails.
var noJournal = recovered(nil, 0, false)

func TestExampleOfJournal(t *testing.T) {
	expect(t, "journal", both(impl.JournalOf([]string{"a", ""})), both("104 a\n104 \n", true))
	expect(t, "recovered", recovered(impl.RecoverJournal("104 a\n104 \nxx")), recovered([]string{"a", ""}, 11, true))
	expect(t, "another check number", recovered(impl.RecoverJournal("103 a\n")), recovered(nil, 0, true))
	expect(t, "a newline in a line", both(impl.JournalOf([]string{"a\nb"})), noText)
}

// journalBy returns the journal of lines as it is defined.
func journalBy(lines []string) string {
	var journal []byte
	check := 0
	for _, line := range lines {
		for i := range len(line) {
			check = (263*check + int(line[i]) + 7) % 65521
		}
		journal = append(journal, strconv.Itoa(check)+" "+line+"\n"...)
	}
	return string(journal)
}

// recoverBy returns the greatest number of lines whose journal is a beginning of a text, and the length of this.
func recoverBy(text string) ([]string, int64) {
	var all []string
	for _, whole := range strings.Split(text, "\n") {
		// No other line can have this as its part of a journal.
		_, line, _ := strings.Cut(whole, " ")
		all = append(all, line)
	}
	for count := len(all); count > 0; count-- {
		if journal := journalBy(all[:count]); strings.HasPrefix(text, journal) {
			return all[:count], int64(len(journal))
		}
	}
	return nil, 0
}

// checkRecovered checks what is recovered of a text.
func checkRecovered(t *testing.T, text string) []string {
	t.Helper()
	want, length := recoverBy(text)
	lines, got, ok := impl.RecoverJournal(text)
	if !slices.Equal(lines, want) || got != length || !ok {
		t.Errorf("recover %q: got %q, %d and %v, want %q, %d", text, lines, got, ok, want, length)
	}
	if journal, ok := impl.JournalOf(lines); !ok || journal != text[:length] {
		t.Errorf("journal of %q: got %q and %v, want %q", lines, journal, ok, text[:length])
	}
	return want
}

// anyJournalLine returns a line of any bytes but a newline.
func (n *numbers) anyJournalLine() string {
	if n.next(1, 3) > 1 {
		return strings.TrimSuffix(n.anyLine(), "\n")
	}
	line := make([]byte, n.next(0, 12))
	for i := range line {
		if line[i] = byte(n.next(0, 255)); line[i] == '\n' {
			line[i] = ' '
		}
	}
	return string(line)
}

// someJournals are lists of lines of all kinds.
func someJournals(seed uint64, count int) [][]string {
	rule := numbers(seed)
	all := [][]string{
		nil, {}, {""}, {"", ""}, {"", "", "", ""}, {"a"}, {"a", ""}, {"", "a"}, {"a", "a", "a"}, {" "}, {"  ", " "}, {"104 a"}, {"104 a", "104 "}, {"0 "}, {"0 ", "0 "}, {"set x 1:1", "show x", "drop x"}, {" a", "a ", " a "}, {"\r", "\x00", "\xff\xfe", "é"}, {"0", "1", "104"}, {"-", "+", "-1 a"}, {strings.Repeat("x", 300), strings.Repeat(" ", 300)},
	}
	for i := range count {
		var lines []string
		for range i % 8 {
			lines = append(lines, rule.anyJournalLine())
		}
		all = append(all, lines)
	}
	return all
}

func TestJournals(t *testing.T) {
	for _, lines := range someJournals(150, 400) {
		journal := journalBy(lines)
		expect(t, "journal of "+fmt.Sprintf("%q", lines), both(impl.JournalOf(lines)), both(journal, true))
		expect(t, "recovered of "+strconv.Quote(journal), recovered(impl.RecoverJournal(journal)), recovered(lines, int64(len(journal)), true))
	}
}

func TestJournalOf(t *testing.T) {
	for want, lines := range map[string][]string{
		"": nil, "0 \n": {""}, "0 \n0 \n": {"", ""}, "104 a\n": {"a"}, "0 \n104 a\n104 \n": {"", "a", ""}, "39 \x20\n": {" "}, "7 \x00\n": {"\x00"}, "104 a\n27456 a\n": {"a", "a"}, "262 \xff\n": {"\xff"}, "27457 ab\n": {"ab"}, "104 a\n27457 b\n": {"a", "b"},
	} {
		expect(t, "journal of "+fmt.Sprintf("%q", lines), both(impl.JournalOf(lines)), both(want, true))
	}
	// The check number of a line is that of all lines up to it in one.
	for _, lines := range someJournals(151, 100) {
		journal, _ := impl.JournalOf(lines)
		check, _ := impl.CheckOf(0, strings.Join(lines, ""))
		if len(lines) > 0 {
			last := lines[len(lines)-1]
			expect(t, "last check number of "+fmt.Sprintf("%q", lines), shown(strings.HasSuffix(journal, impl.Decimal(check)+" "+last+"\n")), "true")
		}
	}
}

func TestLinesWithNewlinesHaveNoJournal(t *testing.T) {
	for _, lines := range [][]string{{"\n"}, {"a\n"}, {"\na"}, {"a\nb"}, {"a", "b\n"}, {"a\n", "b"}, {"", "\n", ""}, {"a", "", "\n"}, {"a\r\n"}, {"a", "104 a\n104 "}, {strings.Repeat("\n", 3000)}} {
		expect(t, "journal of "+fmt.Sprintf("%q", lines), both(impl.JournalOf(lines)), noText)
	}
}

func TestJournalsOfMaxScriptBytes(t *testing.T) {
	full := 0
	for _, lines := range [][]string{
		{strings.Repeat("\x00", 3996)}, {strings.Repeat("x", 3990)}, {strings.Repeat(" ", 3994)}, slices.Repeat([]string{""}, 1333), append(slices.Repeat([]string{"a"}, 500), strings.Repeat("b", 3)), {strings.Repeat("x", 2000), strings.Repeat("y", 1980)}, {"a", strings.Repeat("z", 3000), "", strings.Repeat("\xff", 900)},
	} {
		for len(journalBy(lines)) < 4000 {
			// A line with one byte more can have a check number with one digit more or less.
			lines[0] += "x"
		}
		for more := range 6 {
			longer := slices.Clone(lines)
			longer[len(longer)-1] += strings.Repeat("y", more)
			for cut := range 8 {
				if cut > len(longer[0]) {
					continue
				}
				these := slices.Clone(longer)
				these[0] = these[0][cut:]
				journal := journalBy(these)
				what := "journal of bytes " + shown(len(journal))
				if len(journal) > 4000 {
					expect(t, what, both(impl.JournalOf(these)), noText)
					expect(t, "recovered from "+what, recovered(impl.RecoverJournal(journal)), noJournal)
					continue
				}
				if len(journal) == 4000 {
					full++
				}
				expect(t, what, both(impl.JournalOf(these)), both(journal, true))
				expect(t, "recovered from "+what, recovered(impl.RecoverJournal(journal)), recovered(these, int64(len(journal)), true))
			}
		}
	}
	expect(t, "journals of MaxScript bytes", shown(full > 5), "true")
	// 1333 empty lines have a journal of 3999 bytes.
	expect(t, "empty lines", both(impl.JournalOf(make([]string, 1333))), both(strings.Repeat("0 \n", 1333), true))
	expect(t, "more empty lines", both(impl.JournalOf(make([]string, 1334)))+both(impl.JournalOf(make([]string, 1000000))), noText+noText)
	expect(t, "longer lines", both(impl.JournalOf([]string{strings.Repeat("x", 1000000)}))+both(impl.JournalOf([]string{strings.Repeat("x", 4000)})), noText+noText)
}

func TestTextsOfMaxScriptBytesAreRecovered(t *testing.T) {
	for _, text := range []string{strings.Repeat("0 \n", 1333) + "x", strings.Repeat("0 \n", 1333) + "\n", "104 a\n" + strings.Repeat("x", 3994), strings.Repeat("x", 4000), strings.Repeat("\n", 4000), strings.Repeat(" ", 4000), "0 \n" + strings.Repeat(" \n", 1998) + "0"} {
		expect(t, "length", shown(len(text)), "4000")
		checkRecovered(t, text)
		expect(t, "one byte more", recovered(impl.RecoverJournal(text+"\n"))+recovered(impl.RecoverJournal(text+"x"))+recovered(impl.RecoverJournal("0"+text)), noJournal+noJournal+noJournal)
	}
	expect(t, "very long texts", recovered(impl.RecoverJournal(strings.Repeat("0 \n", 1334)))+recovered(impl.RecoverJournal(strings.Repeat("0 \n", 1000000))), noJournal+noJournal)
}

func TestJournalsThatAreCut(t *testing.T) {
	for _, lines := range someJournals(152, 60) {
		journal := journalBy(lines)
		for i := range len(journal) + 1 {
			part := journal[:i]
			found := checkRecovered(t, part)
			// All lines whose end is not cut off are recovered, and no others.
			if whole := strings.Count(part, "\n"); !slices.Equal(found, lines[:whole]) {
				t.Errorf("recover %q: got %q, want %q", part, found, lines[:whole])
			}
			checkRecovered(t, journal[i:])
			checkRecovered(t, part+"x")
			checkRecovered(t, part+"\n")
			checkRecovered(t, part+journal)
		}
	}
}

func TestJournalsWithOneOtherByte(t *testing.T) {
	for n, lines := range someJournals(153, 24) {
		journal := journalBy(lines)
		if len(journal) > 200 {
			continue
		}
		for i := range len(journal) {
			for b := range 256 {
				if byte(b) == journal[i] || n > 12 && !strings.Contains(" \n0123456789a-+\x00\xff", string([]byte{byte(b)})) {
					continue
				}
				text := journal[:i] + string([]byte{byte(b)}) + journal[i+1:]
				found := checkRecovered(t, text)
				// The lines in front of the byte are recovered, and its own line is not.
				if before := strings.Count(journal[:i], "\n"); !slices.Equal(found, lines[:before]) {
					t.Errorf("recover %q: got %q, want %q", text, found, lines[:before])
				}
			}
		}
	}
}

func TestJournalsWithBytesMoreOrLess(t *testing.T) {
	for _, lines := range someJournals(154, 40) {
		journal := journalBy(lines)
		for i := range len(journal) {
			checkRecovered(t, journal[:i]+journal[i+1:])
			for _, b := range []string{" ", "\n", "0", "1", "a", "-", "+", "\r", "\x00"} {
				checkRecovered(t, journal[:i]+b+journal[i:])
			}
		}
	}
}

func TestTextsThatAreNearlyJournals(t *testing.T) {
	for text, count := range map[string]int{
		"": 0, "\n": 0, " \n": 0, "0": 0, "0 ": 0, "0\n": 0, "0 \n": 1, "00 \n": 0, "-0 \n": 0, "+0 \n": 0, "1 \n": 0, "0  \n": 0, "39  \n": 1, " 0 \n": 0, "0\t\n": 0, "\n0 \n": 0, "0 \n\n": 1, "0 \n\n0 \n": 1, "0 \n0": 1, "0 \n0 ": 1, "0 \n0 \n": 2, "0 \n0 \n1 \n0 \n": 2, "0 \r\n": 0, "20 \r\n": 1,
		"104 a": 0, "104 a\n": 1, "0104 a\n": 0, "104 a \n": 0, "104  a\n": 0, "104a\n": 0, "104 b\n": 0, "105 b\n": 1, "65625 a\n": 0, "-65417 a\n": 0, "104 a\n104 a\n": 1, "104 a\n27456 a\n": 2, "104 a\n27457 b\n": 2, "104 a\n105 b\n": 1, "27457 ab\n": 1, "104 a\n0 \n": 1, "104 a\n104 \n": 2, "a\n": 0, "a 104\n": 0, "a": 0, "104\n": 0, "104": 0, "１０４ a\n": 0, "1e2 \n": 0, "0x0 \n": 0, "0 0 \n": 0,
	} {
		expect(t, "lines of "+strconv.Quote(text), shown(len(checkRecovered(t, text))), shown(count))
	}
	for _, text := range append(anyTexts(), anyLetters()...) {
		if len(text) <= impl.MaxScript {
			checkRecovered(t, text)
		} else {
			expect(t, "long text", recovered(impl.RecoverJournal(text)), noJournal)
		}
	}
}

func TestJournalsOfWhatADeskDoes(t *testing.T) {
	rule := numbers(155)
	for range 100 {
		script := rule.anyScript(12)
		lines := strings.Split(script, "\n")
		lines = lines[:len(lines)-1]
		journal, ok := impl.JournalOf(lines)
		cut := journal[:rule.next(0, int64(len(journal)))]
		found, _, alsoOK := impl.RecoverJournal(cut)
		expect(t, "journal and what is recovered", shown(ok, alsoOK), "true true")
		// What is recovered brings the desk to where it was behind these lines.
		again := strings.Join(append(found, ""), "\n")
		expect(t, "the beginning of the script", shown(strings.HasPrefix(script, again)), "true")
		before, _, _ := impl.RunDesk(impl.Desk{}, again)
		after, _, _ := impl.RunDesk(before, script[len(again):])
		whole, _, _ := impl.RunDesk(impl.Desk{}, script)
		expect(t, "desk", shown(after), shown(whole))
	}
}
