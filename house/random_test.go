package house_test

import (
	"bytes"
	"fmt"
	"math/rand/v2"
	"slices"
	"strings"
	"testing"

	"merino/api"
	"merino/house"
	"merino/journal"
)

// anySetup is a setup of which some are poor in sectors, or in bands.
func anySetup(r *rand.Rand) api.Setup {
	scales := [][]api.Band{
		{{Upto: 1 << 40, Rate: 200}},
		{{Upto: 500000, Rate: 500}, {Upto: 1 << 40, Rate: 133}},
		{{Upto: 1 << 40, Rate: 0}},
		{{Upto: 30, Rate: 1}, {Upto: 2000000, Rate: 10000}},
		{{Upto: 100000, Rate: 9999}},
	}
	return api.Setup{
		Rooms:   1 + r.IntN(4),
		Sectors: []int{16, 24, 48, 128, 512}[r.IntN(5)],
		Scale:   scales[r.IntN(len(scales))],
	}
}

// pick is one of a list.
func pick[T any](r *rand.Rand, list []T) T { return list[r.IntN(len(list))] }

// names that need not be used.
var (
	clipNames = []string{"m1", "m2", "m3", "m4", "m5", "m6", "m7"}
	strange   = []string{"", "-", "Zed", "abcdefghijklmnopq", "7", "-0", "+1", "01", "1.0", "aaaaa", "a-b", "1125899906842625",
		"99999999999999999999", "-1125899906842624", "nobody", "\t", "é", "house", "bank", "if", "audit"}
)

// anyGrams are those of a bale.
func anyGrams(r *rand.Rand) int {
	switch r.IntN(12) {
	case 0:
		return pick(r, []int{-1, 0, 1, 1 << 30, 1<<30 + 1})
	case 1:
		return 1 + r.IntN(2500)
	case 2:
		return 1 << (26 + r.IntN(4))
	}
	return 1000 + r.IntN(200000)
}

// anyPrice is a price, mostly.
func anyPrice(r *rand.Rand) int {
	switch r.IntN(12) {
	case 0:
		return pick(r, []int{-1, 0, 1, 1 << 20, 1<<20 + 1})
	case 1:
		return 1 + r.IntN(3000)
	}
	return 400 + r.IntN(12)*50
}

// anyBale is the number of a bale, mostly of one of the last that were made.
func anyBale(r *rand.Rand, bales int) int {
	if r.IntN(3) == 0 {
		return r.IntN(bales+3) - 1
	}
	return max(1, bales-r.IntN(5))
}

// anyBales are some of the bales.
func anyBales(r *rand.Rand, least, bales int) string {
	n := least + r.IntN(3)
	if r.IntN(20) == 0 {
		n = pick(r, []int{0, 1, 11, 12, 13, 15, 16, 17, 18})
	}
	from := anyBale(r, bales)
	if n > 9 {
		from = 1
	}
	var words []string
	for i := range n {
		no := from + i
		if r.IntN(12) == 0 {
			no = anyBale(r, bales)
		}
		words = append(words, fmt.Sprint(no))
	}
	return strings.Join(words, " ")
}

// say is a line of words.
func say(words ...any) string { return strings.TrimSuffix(fmt.Sprintln(words...), "\n") }

// anyStoreLine is a line about the store.
func anyStoreLine(r *rand.Rand, bales int) string {
	switch r.IntN(24) {
	case 0, 1:
		return say("clip", pick(r, clipNames), pick(r, ownerNames))
	case 2, 3, 4, 5, 6, 7:
		return say("receive", r.IntN(5), pick(r, []string{"aa", "aa", "aa", "aa", "b2", "7", "zzzz"}), anyGrams(r))
	case 8, 9:
		return say("split", anyBale(r, bales), anyGrams(r)/2)
	case 10:
		return say("merge", anyBales(r, 2, bales))
	case 11:
		return say("core", anyBale(r, bales), 1+anyGrams(r)/50)
	case 12:
		return say("weigh", anyBale(r, bales), anyGrams(r))
	case 13:
		return say(pick(r, []string{"hold", "release", "waste"}), anyBale(r, bales))
	case 14, 15, 16, 17, 18:
		return say("lot", pick(r, lotNames), anyBales(r, 1, bales))
	case 19:
		return say("unlot", pick(r, lotNames))
	case 20, 21:
		return say("send", pick(r, lotNames))
	default:
		return say("dumps", pick(r, lotNames), 1000+r.IntN(400000))
	}
}

// anySaleLine is a line about the sale.
func anySaleLine(r *rand.Rand, rooms int) string {
	lot, buyer, no := pick(r, lotNames), pick(r, buyerNames[:3]), 1+r.IntN(rooms)
	if r.IntN(2) == 0 {
		lot, buyer, no = "l1", pick(r, buyerNames[:2]), 1
	}
	if r.IntN(20) == 0 {
		no = pick(r, []int{-1, 0, rooms + 1, 9})
	}
	switch r.IntN(24) {
	case 0, 1:
		return say("buyer", pick(r, buyerNames), pick(r, []int{-1, 0, 100000, 1 << 40, 1 << 40, 1 << 50}))
	case 2, 3, 4, 5:
		open := anyPrice(r)
		return say("enter", lot, no, open, open+pick(r, []int{-1, 0, 0, 100, 300}))
	case 6, 7, 8, 9, 10:
		return say("bid", buyer, lot, anyPrice(r))
	case 11, 12:
		return say("start", no)
	case 13, 14, 15:
		return say("knock", no)
	case 16:
		return say("withdraw", lot)
	case 17:
		return say("lower", lot, anyPrice(r))
	case 18, 19, 20:
		return say("accept", buyer, lot)
	case 21:
		return say("decline", buyer, lot)
	default:
		return say(pick(r, []string{"standing", "turn"}), lot)
	}
}

// anyMoneyLine is a line about days and money.
func anyMoneyLine(r *rand.Rand) string {
	buyer, cents := pick(r, buyerNames), pick(r, []int{-5, 0, 1, 70, 300000, 1 << 40, 1<<40 + 1, 1 << 50})
	switch r.IntN(8) {
	case 0, 1:
		return say("day", pick(r, []int{-1, 0, 3, 500, 1000, 70000, 999999, 1000000, 1000001}))
	case 2, 3, 4:
		return say("pay", buyer, cents)
	case 5, 6:
		return say("draw", pick(r, ownerNames), cents)
	default:
		return say(pick(r, []string{"free", "balance"}), pick(r, []string{buyer, "b-" + buyer, "fee", "bank"}))
	}
}

// anyLine is a line of any kind; a few are spoilt.
func anyLine(r *rand.Rand, rooms, bales int) string {
	line := ""
	switch r.IntN(10) {
	case 0, 1, 2, 3:
		line = anyStoreLine(r, bales)
	case 4, 5, 6, 7:
		line = anySaleLine(r, rooms)
	case 8:
		line = anyMoneyLine(r)
	default:
		line = pick(r, []string{"audit", "lots", say("show", anyBale(r, bales)), "lots"})
	}
	words := strings.Fields(line)
	switch r.IntN(40) {
	case 0:
		words[r.IntN(len(words))] = pick(r, strange)
	case 1:
		words = append(words, pick(r, strange))
	case 2:
		words = words[:len(words)-1]
	case 3:
		words = append([]string{"if"}, words...)
	case 4:
		return "  " + strings.Join(words, "   ") + " "
	}
	return strings.Join(words, " ")
}

// isPlain tells whether a line has only bytes that may stand in it.
func isPlain(line string) bool {
	return len(line) <= 200 && !strings.ContainsFunc(line, func(r rune) bool { return r < 32 || r > 126 })
}

// start are lines that a random house may begin with.
func start(r *rand.Rand) []string {
	lines := []string{"clip m1 anna", "clip m2 bert", "buyer zed 1099511627776", "buyer yan 1125899906842624"}
	for no := range 2 + r.IntN(4) {
		lines = append(lines, say("receive", 1+no%2, "aa", 90000+r.IntN(90000)))
	}
	return append(lines, "lot l1 1 2", "enter l1 1 400 600")
}

// sameDisk fails the test unless two disks are alike, also when the power was
// cut and all writes are kept.
func sameDisk(t *testing.T, what any, got, want *journal.Disk) {
	t.Helper()
	equal(t, what, []any{got.Sectors(), got.Writes()}, []any{want.Sectors(), want.Writes()})
	got, want = got.Copy(), want.Copy()
	for range 2 {
		for i := range want.Sectors() {
			a, e := got.Read(i)
			b, f := want.Read(i)
			if !bytes.Equal(a, b) || e != f {
				t.Fatalf("%v: sector %d: got %v, %d; want %v, %d", what, i, a, e, b, f)
			}
		}
		all := slices.Repeat([]int{64}, 600)
		ok(t, got.Crash(all), want.Crash(all))
	}
}

// pair is a house and its model.
type pair struct {
	house *house.House
	model *model
	setup api.Setup
	bales int // about how many were made
	seen  map[string]bool
}

// newPair is a house with its model.
func newPair(t *testing.T, s api.Setup) *pair {
	return &pair{newHouse(t, s), newModel(s), s, 1, map[string]bool{}}
}

// exec carries out a line and compares the answers.
func (p *pair) exec(t *testing.T, line string) string {
	t.Helper()
	want := p.model.run(line)
	got := p.house.Exec(line)
	if got != want {
		t.Fatalf("%s: got %q; want %q; the book is %q", line, got, want, p.model.book)
	}
	if strings.HasPrefix(got, "bale") {
		p.bales++
	}
	words := strings.Fields(line)
	if len(words) > 0 && words[0] != "if" {
		first, _, _ := strings.Cut(got, " ")
		if isRefused(got) {
			first = got
		}
		p.seen[words[0]+" "+first] = true
	}
	return got
}

// try carries out a line, perhaps with an if ahead of it, whose answer must be
// the same.
func (p *pair) try(t *testing.T, r *rand.Rand, line string) {
	t.Helper()
	if r.IntN(4) > 0 || strings.TrimSpace(line) == "" || len(line) > 190 {
		p.exec(t, line)
		return
	}
	guess := p.exec(t, "if "+line)
	equal(t, "if "+line, guess, p.exec(t, line))
}

// check fails the test unless the house shows what the model does.
func (p *pair) check(t *testing.T, what any) {
	t.Helper()
	equal(t, what, p.house.Book(), p.model.book)
	equal(t, what, p.house.Audit(), p.model.audit())
	for _, question := range questions {
		equal(t, question, p.house.Exec(question), p.model.live(question))
	}
	sameDisk(t, what, p.house.Disk(), p.model.disk)
	if !p.house.Audit().Good {
		t.Fatalf("%v: a bad book: %q", what, p.house.Book())
	}
}

// wanted are answers that the random houses must reach.
var wanted = `clip clip,clip ! 8,receive bale,receive ! 7,receive ! 2,receive ? word 2,split bale,split ! 7,split ! 10,split ! 2,
split ! 11,merge bale,merge ! 7,merge ! 10,merge ! 2,merge ! 12,merge ? line,core ok,core ! 7,core ! 10,core ! 11,weigh ok,weigh ! 7,
weigh ! 10,weigh ! 2,hold ok,hold ! 10,release ok,release ! 10,waste ok,waste ! 10,lot ok,lot ! 8,lot ! 7,lot ! 10,lot ! 12,lot ! 2,
lot ? line,unlot ok,unlot ! 7,unlot ! 10,send ok,send ! 7,send ! 10,day ok,day ! 2,day ! 10,buyer ok,buyer ! 2,buyer ! 8,
enter ok,enter ! 7,enter ! 10,enter ! 2,enter ! 8,bid ok,bid ! 7,bid ! 10,bid ! 2,bid ! 15,bid ! 14,start ! 2,start ! 10,start ! 7,
start l1,knock sold,knock passed,knock ! 2,knock ! 10,knock ! 4,withdraw ok,withdraw ! 7,withdraw ! 10,lower ok,lower ! 7,lower ! 10,
lower ! 2,accept sold,accept ! 7,accept ! 10,accept ! 16,accept ! 4,decline ok,decline ! 7,decline ! 10,decline ! 16,pay ok,
pay ! 2,pay ! 7,draw ok,draw ! 2,draw ! 7,show aa,show ! 7,lots l1,standing zed,standing ! 7,standing ! 10,standing ! 15,turn zed,
turn ! 7,turn ! 10,turn ! 16,free 0,free ! 7,balance 0,balance ! 7,dumps 1,dumps 2,dumps ! 7,dumps ! 10,dumps ! 13,audit good,
clip ! 18,clip ! 19,receive ! 18,receive ! 19,knock ! 18,knock ! 19,lot ? word 2,buyer ? word 2,enter ? word 3,enter ? word 4`

// P10.2 to P10.10, P10.15, P10.16: random houses answer, and show, and write to
// their disks what the words of the chapter say; `if` answers what the command
// then gets, even if the power is about to be cut.
func TestModel(t *testing.T) {
	seen := map[string]bool{}
	for seed := range uint64(300) {
		r := dice(100 + seed)
		p := newPair(t, anySetup(r))
		p.seen = seen
		if r.IntN(4) > 0 {
			for _, line := range start(r) {
				p.exec(t, line)
			}
		}
		for i := range 160 {
			p.try(t, r, plainLine(r, p))
			if r.IntN(200) == 0 {
				n := r.IntN(60)
				p.model.fuse(n)
				p.house.Disk().Fuse(n)
			}
			if i%50 == 0 {
				p.check(t, seed)
			}
		}
		p.check(t, seed)
		if t.Failed() {
			t.Fatalf("seed %d", seed)
		}
	}
	for _, want := range strings.Split(wanted, ",") {
		if !seen[strings.TrimSpace(want)] {
			t.Error("never reached:", want)
		}
	}
}

// plainLine is a line that the model knows.
func plainLine(r *rand.Rand, p *pair) string {
	for {
		if line := anyLine(r, p.setup.Rooms, p.bales); isPlain(line) {
			return line
		}
	}
}
