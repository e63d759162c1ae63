package house_test

import (
	"fmt"
	"strings"
	"testing"
)

// wrongWords are lines that change nothing in the house of the example, with
// what is answered to them.
var wrongWords = map[string]string{
	"":                              "",
	" ":                             "",
	strings.Repeat(" ", 201):        "",
	"\t":                            "? line",
	"\n":                            "? line",
	"\x00":                          "? line",
	"hello":                         "? line",
	"Audit":                         "? line",
	"audit\n":                       "? line",
	"audit\t":                       "? line",
	"audit \x7f":                    "? line",
	"clip \x7f anna":                "? line",
	"clip \x1f anna":                "? line",
	"show\t1":                       "? line",
	"clip é anna":                   "? line",
	"clip \xff anna":                "? line",
	"clip \u00a0 anna":              "? line",
	"audit 1":                       "? line",
	"lots -":                        "? line",
	"clip":                          "? line",
	"clip m2":                       "? line",
	"clip m2 anna x":                "? line",
	"receive 1 aa":                  "? line",
	"receive x aa":                  "? line",
	"receive 1 aa 1 1":              "? line",
	"split 1":                       "? line",
	"merge":                         "? line",
	"merge 1":                       "? line",
	"merge x":                       "? line",
	"merge" + counting(17):          "? line",
	"merge" + counting(16) + " x":   "? line",
	"lot l2":                        "? line",
	"lot":                           "? line",
	"lot l2" + counting(17):         "? line",
	"day":                           "? line",
	"enter l1 1 400":                "? line",
	"enter l1 1 400 400 1":          "? line",
	"standing":                      "? line",
	"turn l1 l1":                    "? line",
	"dumps l1":                      "? line",
	"if":                            "? line",
	"if if":                         "? line",
	"if if if":                      "? line",
	"if hello":                      "? line",
	"if clip m2":                    "? line",
	"if \t":                         "? line",
	"receive x aa 1":                "? word 1",
	"receive 1 aa x":                "? word 3",
	"receive 1 AA x":                "? word 2",
	"receive x AA x":                "? word 1",
	"  receive   x  AA x ":          "? word 1",
	"if receive x aa 1":             "? word 1",
	"if if receive 1 aa x":          "? word 3",
	"merge 1 x":                     "? word 2",
	"merge" + counting(15) + " x":   "? word 16",
	"lot l2" + counting(15) + " x":  "? word 17",
	"lot ? x":                       "? word 2",
	"split x y":                     "? word 1",
	"split 1 y":                     "? word 2",
	"core 1 -":                      "? word 2",
	"weigh 1 1e3":                   "? word 2",
	"hold one":                      "? word 1",
	"release 1.0":                   "? word 1",
	"waste 0x1":                     "? word 1",
	"day 1_0":                       "? word 1",
	"buyer zed x":                   "? word 2",
	"enter l1 x 400 400":            "? word 2",
	"enter l1 1 x 400":              "? word 3",
	"enter l1 1 400 x":              "? word 4",
	"enter nolot x 400 x":           "? word 2",
	"bid zed l1 x":                  "? word 3",
	"start x":                       "? word 1",
	"knock x":                       "? word 1",
	"lower l1 x":                    "? word 2",
	"pay nobody x":                  "? word 2",
	"draw nobody x":                 "? word 2",
	"show x":                        "? word 1",
	"dumps nolot x":                 "? word 2",
	"show 1125899906842625":         "? word 1",
	"show -1125899906842625":        "? word 1",
	"show 9223372036854775807":      "? word 1",
	"show 9223372036854775808":      "? word 1",
	"show 99999999999999999999999":  "? word 1",
	"show -99999999999999999999999": "? word 1",
	"show 1125899906842624":         "! 7",
	"show -1125899906842624":        "! 7",
	"show 0":                        "! 7",
	"show -0":                       "? word 1",
	"show +1":                       "? word 1",
	"show 01":                       "? word 1",
	"show 00":                       "? word 1",
	"show -01":                      "? word 1",
	"show -":                        "? word 1",
	"show --1":                      "? word 1",
	"show 1-":                       "? word 1",
	"show 1,0":                      "? word 1",
	"receive 1 abcde 1":             "? word 2",
	"receive 1 a-b 1":               "? word 2",
	"receive 1 ~ 1":                 "? word 2",
	"receive 1 a` 1":                "? word 2",
	"receive 1 { 1":                 "? word 2",
	"receive 1 : 1":                 "? word 2",
	"receive 1 / 1":                 "? word 2",
	"receive 9 z09a 1":              "! 7",
	"clip ~ !":                      "! 2",
	"lot ~ 1":                       "! 2",
}

// P10.2: what is answered to words that are not those of a command, and that it
// changes nothing.
func TestWords(t *testing.T) {
	h := newHouse(t, exampleSetup)
	example.hold(t, h)
	refusals(t, h, wrongWords)
}

// counting is so many numbers from 1 on, each behind a blank.
func counting(n int) string {
	words := ""
	for i := range n {
		words += fmt.Sprint(" ", i+1)
	}
	return words
}

// P10.2: a line has at most 200 bytes, blanks and all.
func TestLongLines(t *testing.T) {
	h := newHouse(t, exampleSetup)
	for n, want := range map[int]string{0: "ok", 194: "ok", 195: "? line", 100000: "? line"} {
		equal(t, n, h.Exec("day 0"+strings.Repeat(" ", n+1)), want)
		equal(t, n, h.Exec(strings.Repeat(" ", n+1)+"day 0"), want)
		equal(t, n, h.Exec("day"+strings.Repeat(" ", n+2)+"0"), want)
	}
	equal(t, "long words", h.Exec("clip "+strings.Repeat("a", 193)+" b"), "! 2")
	equal(t, "longer words", h.Exec("clip "+strings.Repeat("a", 194)+" b"), "? line")
	equal(t, "ifs", h.Exec(strings.Repeat("if ", 65)+"day 3"), "ok")
	equal(t, "more ifs", h.Exec(strings.Repeat("if ", 66)+"day 3"), "? line")
	equal(t, "the book", h.Book(), strings.Split("day 0,day 0,day 0,day 0,day 0,day 0", ","))
}

// P10.2, P10.10: how the words stand in a line plays no part, and the book has
// one blank between them.
func TestBlanks(t *testing.T) {
	h := newHouse(t, exampleSetup)
	equal(t, "a clip", h.Exec("  clip   m  anna "), "clip 1")
	for i, kind := range []string{"a", "0", "zz9", "0000", "a0z9"} {
		equal(t, kind, h.Exec("receive 1   "+kind+" 100"), fmt.Sprint("bale ", i+1))
		equal(t, kind, h.Exec(fmt.Sprint("  show  ", i+1)), kind+" 100 0 - 1:100")
	}
	equal(t, "the book", strings.Join(h.Book(), "/"), "clip m anna/receive 1 a 100/receive 1 0 100/receive 1 zz9 100"+
		"/receive 1 0000 100/receive 1 a0z9 100")
	equal(t, "the disk", bookOf(t, h.Disk()), h.Book())
}
