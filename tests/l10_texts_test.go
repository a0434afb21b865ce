package tests

import (
	"regexp"
	"strconv"
	"strings"
	"testing"

	"loop.example/g01129/impl"
)

// The tests of this file are for promise 11: texts of systems.

// systemTexts are systems with their texts.
func systemTexts() map[string]impl.System {
	return map[string]impl.System{
		"0:": system(0), "0:-": system(0, 0), "0:-,-": system(0, 0, 0), "0:" + strings.Repeat("-,", 11) + "-": system(0, repeated(0, 12)...), "1:": system(1), "1:a": system(1, 1), "1:-,a,a,-": system(1, 0, 1, 1, 0), "3:": system(3), "3:-": system(3, 0), "3:-,-": system(3, 0, 0),
		"3:ab,bc,ac": system(3, 3, 6, 5), "3:c,b,a": system(3, 4, 2, 1), "3:abc": system(3, 7), "4:ab,bc,cd,abcd": system(4, 3, 6, 12, 15), "8:h,abcdefgh": system(8, 128, 255), "10:j": system(10, 512), "11:k,ak": system(11, 1024, 1025),
		"12:": system(12), "12:l": system(12, 2048), "12:-": system(12, 0), "12:abcdefghijkl": system(12, 4095), "12:acegik,bdfhjl": system(12, 1365, 2730), "12:" + strings.Repeat("abcdefghijkl,", 11) + "abcdefghijkl": system(12, repeated(4095, 12)...), "12:a,b,c,d,e,f,g,h,i,j,k,l": system(12, 1, 2, 4, 8, 16, 32, 64, 128, 256, 512, 1024, 2048),
	}
}

func TestSystemTextAndReadSystem(t *testing.T) {
	for text, x := range systemTexts() {
		expect(t, "text of "+shown(x), both(impl.SystemText(x)), both(text, true))
		expect(t, "system "+text, both(impl.ReadSystem(text)), both(x, true))
	}
	for _, x := range append(smallSystems(109, 300), largeSystems(110, 200)...) {
		text := strconv.FormatInt(x.Points, 10) + ":"
		for i, set := range x.Sets {
			if i > 0 {
				text += ","
			}
			if set == 0 {
				text += "-"
			}
			for _, point := range pointsOf(set) {
				text += "abcdefghijkl"[point : point+1]
			}
		}
		expect(t, "text of "+shown(x), both(impl.SystemText(x)), both(text, true))
		expect(t, "system "+text, both(impl.ReadSystem(text)), both(x, true))
	}
}

func TestAllSetsOfMaxPoints(t *testing.T) {
	for set := range int64(4096) {
		text, ok := impl.SystemText(system(12, set))
		expect(t, "set "+shown(set), both(len(text) == 3+max(1, len(pointsOf(set))), ok), "true true")
		expect(t, "text "+text, both(impl.ReadSystem(text)), both(system(12, set), true))
	}
}

// systemForm is the form of the texts of systems, but for the order of points, and how many sets and points there are.
var systemForm = regexp.MustCompile(`\A(0|[1-9]|1[0-2]):(([a-l]+|-)(,([a-l]+|-))*)?\z`)

// isSystemText reports whether a text is that of a system.
func isSystemText(s string) bool {
	if !systemForm.MatchString(s) {
		return false
	}
	points, sets, _ := strings.Cut(s, ":")
	n, _ := strconv.Atoi(points)
	for _, letters := range strings.Split(sets, ",") {
		last := -1
		for _, letter := range strings.Trim(letters, "-") {
			point := strings.IndexRune("abcdefghijkl"[:n], letter)
			if point <= last {
				return false
			}
			last = point
		}
	}
	return strings.Count(sets, ",") < 12
}

// wrongSystemTexts are texts that are nearly those of systems.
func wrongSystemTexts() []string {
	return []string{
		"", ":", "3", "-", ",", "a", "ab,bc", ":a", ":-", "3;a", "3a", "3 :a", " 3:a", "3: a", "3:a ", "3:a\n", "\n3:a", "3:a\x00", "\x003:a", "3::a", "3:a:", "3:a:b", "3:3:a", ":3:a", "3:a;b", "3:a|b", "3:a, b", "3:a ,b", "3:a/b",
		"3:ba", "3:cab", "3:acb", "3:ab,cb", "3:aa", "3:abb", "3:aab", "3:aba", "3:ab,aa", "3:ad", "3:d", "3:a,d", "3:abcd", "0:a", "0:-,a", "1:b", "1:ab", "2:c", "8:i", "9:j", "10:k", "11:l", "12:m", "12:abcdefghijklm", "12:z", "12:lm", "12:kj",
		"3:a,", "3:,a", "3:a,,b", "3:,", "3:,,", "0:,", "3:-,", "3:,-", "3:-,,-", "3:--", "3:a-", "3:-a", "3:a,-b", "3:---", "3:-,--", "3:+", "3:—",
		"3:A", "3:aB", "3:0", "3:1", "3:0,1", "3:a1", "3:[a]", "3:`", "3:{", "3:a_b", "3:á", "3:а", "3:ａ", "3:a\xff", "3:\xe1", "3:\xff\xfe", "3:a\u0301",
		"+3:a", "-3:", "-3:a", "-1:", "-1:-", "-0:", "03:a", "003:a", "00:", "3.0:a", "3e0:a", "0x3:a", "1_0:a", "٣:a", "３:a", "three:a", "1/3:a", "--3:a", "3-:a", "3,:a", "3,4:a",
		"13:", "13:a", "13:-", "14:a", "20:a", "64:a", "100:a", "1000000000:a", "1000000001:a", "9223372036854775807:a", "9223372036854775808:a", "-9223372036854775808:a", "18446744073709551619:a", "4294967299:a", strings.Repeat("9", 5000) + ":a", strings.Repeat("0", 5000) + "3:a",
		"3:" + strings.Repeat("a,", 12) + "a", "3:" + strings.Repeat("-,", 12) + "-", "0:" + strings.Repeat("-,", 12) + "-", "12:" + strings.Repeat("abcdefghijkl,", 12) + "l", "3:" + strings.Repeat("a,", 12), "3:" + strings.Repeat(",", 11), "3:" + strings.Repeat(",", 12),
		"3:" + strings.Repeat("a,", 3000) + "a", "3:" + strings.Repeat("a", 300000), "3:" + strings.Repeat("-", 3000), "3:" + strings.Repeat(",", 3000), strings.Repeat("3:", 3000), strings.Repeat(":", 3000), "12:" + strings.Repeat("abcdefghijkl", 300),
	}
}

func TestTextsThatAreNoSystemsFail(t *testing.T) {
	for _, s := range wrongSystemTexts() {
		expect(t, strconv.Quote(s), both(impl.ReadSystem(s))+shown(isSystemText(s)), noSystem+"false")
	}
	for b := range 256 {
		for points := range 13 {
			s := strconv.Itoa(points) + ":" + string([]byte{byte(b)})
			_, ok := impl.ReadSystem(s)
			expect(t, strconv.Quote(s), shown(ok), shown(b == '-' || b >= 'a' && b < 'a'+points))
		}
	}
}

func TestReadSystemOfChangedTexts(t *testing.T) {
	// What ReadSystem takes is just what SystemText returns.
	taken, left := 0, 0
	for text := range systemTexts() {
		for i := range len(text) + 1 {
			for _, b := range []byte("abcdklm-,:0123 \n+") {
				changes := []string{text[:i] + string(b) + text[i:]}
				if i < len(text) {
					changes = append(changes, text[:i]+text[i+1:], text[:i]+string(b)+text[i+1:])
				}
				for _, s := range changes {
					x, ok := impl.ReadSystem(s)
					expect(t, "read "+strconv.Quote(s), shown(ok), shown(isSystemText(s)))
					if !ok {
						left++
						expect(t, strconv.Quote(s), both(x, ok), noSystem)
						continue
					}
					taken++
					expect(t, "the same text", both(impl.SystemText(x)), both(s, true))
				}
			}
		}
	}
	expect(t, "texts that are taken and others", shown(taken > 100, left > 1000), "true true")
}
