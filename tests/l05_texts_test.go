package tests

import (
	"slices"
	"strconv"
	"strings"
	"testing"

	"loop.example/g01129/impl"
)

// The tests of this file are for promise 6: texts of tables.

// noTable is what ReadTable must return if it fails.
var noTable = shown(impl.Table{}, false)

// tableTexts are tables with their texts.
func tableTexts() map[string]impl.Table {
	return map[string]impl.Table{
		"2:1,1/1,1": table(2, row(1, 1), row(1, 1)), "1:0": table(1, row(0)), "1000:100000": table(impl.MaxDen, row(impl.MaxEntry)), "4:3,5": table(4, row(3, 5)), "6:4,2": table(6, row(4, 2)),
		"7:1,2,3,4,5": table(7, row(1, 2, 3, 4, 5)), "7:1/2/3/4/5": table(7, row(1), row(2), row(3), row(4), row(5)), "3:0,10/200,3000/0,0": table(3, row(0, 10), row(200, 3000), row(0, 0)),
		"999:" + strings.Repeat("100000,100000,100000,100000,100000/", 4) + "100000,100000,100000,100000,100000": table(999, square(impl.MaxEntry, 5, 5)...),
	}
}

func TestTableTextAndReadTable(t *testing.T) {
	for text, x := range tableTexts() {
		expect(t, "text of a table", both(impl.TableText(x)), both(text, true))
		expect(t, "table of a text", both(impl.ReadTable(text)), both(x, true))
	}
	rule := numbers(15)
	for range 300 {
		x := rule.anyTable(int(rule.next(1, 5)), int(rule.next(1, 5)), 25)
		text, ok := impl.TableText(x)
		var rows []string
		for _, list := range x.Rows {
			s, _ := impl.ListText(list)
			rows = append(rows, s)
		}
		expect(t, "text "+shown(x), both(text, ok), both(impl.Decimal(x.Den)+":"+strings.Join(rows, "/"), true))
		expect(t, "there and back", both(impl.ReadTable(text)), both(x, true))
	}
}

// wrongTableTexts are texts that are nearly those of a table.
func wrongTableTexts() []string {
	texts := []string{
		"", ":", "/", "2", "2:", ":1,1", "2:-", "2:-/-", "2:/", "-", "1,1/1,1", "2 1,1/1,1", "2::1,1/1,1", "2:1,1/1,1:", "2:1,1:1,1", ":2:1,1", "2/1,1:1,1", "2/1,1", "2;1,1/1,1",
		"2:1,1/", "2:/1,1", "2:1,1//1,1", "2:1,1/1,1/", "2:1,1/-", "2:-/1,1", "2:1/-", "2:1,1/1", "2:1/1,1", "2:1,1/1,1,1", "2:1,1/1,", "2:1,1/,1", "2:1,1,/1,1", "2:,1/1,1",
		"2:1,1|1,1", "2:1,1;1,1", "2:1,1\n1,1", "2:1,1 /1,1", "2:1,1/ 1,1", "2: 1,1/1,1", "2:1, 1/1,1", "2 :1,1/1,1", " 2:1,1/1,1", "2:1,1/1,1 ", "2:1,1/1,1\n", "\n2:1,1/1,1", "2:1,1/1,1\x00", "2:1,1\\1,1", "2:1,1／1,1", "2：1,1",
		"0:1", "0:1,1/1,1", "-1:1", "-2:1,1/1,1", "1001:1", "02:1,1/1,1", "+2:1,1", "-0:1", "2.0:1", "a:1", "1000000001:1", "9223372036854775808:1", "18446744073709551618:1",
		"2:-1", "2:1,-1/1,1", "2:1,1/1,-2", "2:100001", "2:0,0/100001,0", "2:1000001", "2:9223372036854775808", "2:01", "2:1,+1", "2:-0", "2:a", "2:1,1/1,b", "2:1,1/1,1.0",
		"2:1/1/1/1/1/1", "2:1,1,1,1,1,1", "2:1,1/1,1/1,1/1,1/1,1/1,1", "2:1,1,1,1,1/1,1,1,1,1,1", "2:" + strings.Repeat("1,", 40) + "1", "2:" + strings.Repeat("1/", 3000) + "1", "2:" + strings.Repeat("/", 3000),
	}
	for _, s := range wrongListTexts() {
		// What separates rows is not wrong between the rows of a table.
		if s != "1/2" {
			texts = append(texts, "4:"+s, "4:1/"+s)
		}
	}
	return append(texts, "4:1/1,2", "4:1,2/1/2")
}

func TestReadTableOfOtherTexts(t *testing.T) {
	for _, s := range wrongTableTexts() {
		expect(t, strconv.Quote(s), both(impl.ReadTable(s)), noTable)
	}
}

func TestReadTableOfChangedTexts(t *testing.T) {
	// What ReadTable takes is just what TableText returns.
	for text := range tableTexts() {
		for i := range len(text) + 1 {
			for _, b := range []byte("0129,:/- +\n") {
				changes := []string{text[:i] + string(b) + text[i:]}
				if i < len(text) {
					changes = append(changes, text[:i]+text[i+1:], text[:i]+string(b)+text[i+1:])
				}
				for _, s := range slices.Compact(changes) {
					x, ok := impl.ReadTable(s)
					if !ok {
						expect(t, strconv.Quote(s), both(x, ok), noTable)
						continue
					}
					expect(t, "the same text", both(impl.TableText(x)), both(s, true))
				}
			}
		}
	}
}
