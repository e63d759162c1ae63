package house_test

import (
	"math/rand/v2"
	"slices"
	"strings"
	"testing"

	"merino/api"
	"merino/house"
	"merino/journal"
)

// trade is a text in which all that a house does is done, and some of it is
// refused.
const trade = `clip m anna
clip k bert
receive 1 aa 180500
receive 2 aa 90000
receive 2 aa 70000
show 1
split 1 30500
merge 2 3
core 1 500
weigh 4 30000
hold 4
release 4
lot l1 1
lot l2 4 5
lot l3 9
buyer zed 100000000
buyer yan 90000000
enter l1 1 400 600
enter l2 1 400 900
enter l3 1 400 400
if bid zed l1 650
bid zed l1 700
bid yan l1 650
start 1
knock 1
pay zed 5000
day 9
start 1
bid yan l2 450
knock 1
turn l2
lower l2 500
decline zed l2
if accept yan l2
accept yan l2
draw anna 1000
pay yan 80000000000000
send l1
unlot l2
send l2
receive 1 b 1000
waste 6
day 8
audit
day 10
`

// anyKeep is what a crash keeps of the writes.
func anyKeep(r *rand.Rand) []int {
	keep := make([]int, r.IntN(12))
	kind := r.IntN(3)
	for k := range keep {
		switch kind {
		case 0:
			keep[k] = 64 * r.IntN(2)
		case 1:
			keep[k] = r.IntN(65)
		case 2:
			keep[k] = 64
		}
	}
	return keep
}

// cut runs lines on a house until the power is cut, and returns the books that
// may be found on its disk. Behind that, all commands that change the house are
// refused, and the others work.
func cut(t *testing.T, h *house.House, lines []string) [][]string {
	t.Helper()
	var may [][]string
	before := picture(h)
	for i, line := range lines {
		book := h.Book()
		if i%8 == 0 {
			before = picture(h)
		}
		answer := h.Exec(line)
		switch {
		case may != nil && changes(line) && answer[0] != '?':
			equal(t, line, answer, "! 18")
		case answer == "! 18" && changes(line):
			may = [][]string{book, append(book, strings.Join(strings.Fields(line), " "))}
			equal(t, "the book", h.Book(), book)
			before = picture(h)
		}
		if may != nil && i%8 == 7 && picture(h) != before {
			t.Fatal("a house without power has changed")
		}
	}
	return may
}

// reopened crashes a copy of a disk and recovers the house, with the power cut
// some times more, and returns its number among the books that it may have.
func reopened(t *testing.T, r *rand.Rand, s api.Setup, d *journal.Disk, may [][]string) (*house.House, int) {
	t.Helper()
	keep := anyKeep(r)
	ok(t, d.Crash(keep))
	for range r.IntN(3) {
		ok(t, d.Fuse(r.IntN(4)))
		h, e := house.Recover(s, d)
		if (h == nil) != (e == api.ErrDisk) {
			t.Fatal("error", e)
		}
		ok(t, d.Crash(anyKeep(r)))
	}
	h := recovered(t, s, d)
	for i, book := range may {
		if slices.Equal(book, h.Book()) {
			return h, i
		}
	}
	t.Fatalf("keep %v: the book is %q; may be %q", keep, h.Book(), may)
	return nil, 0
}

// P10.14: wherever the power is cut, and whatever is kept, the house that is
// recovered has the book of all that was answered, or of one command more; it
// is a good one, and the house that reads that book.
func TestPowerCut(t *testing.T) {
	got := [2]int{}
	lines := strings.Split(trade, "\n")
	for _, sectors := range []int{16, 40, 64} {
		s := setup(sectors)
		for n := 0; ; n++ {
			r := dice(uint64(5000 + n + 10000*sectors))
			h := newHouse(t, s)
			ok(t, h.Disk().Fuse(n))
			may := cut(t, h, lines)
			if may == nil {
				if n < 40 {
					t.Error("the power is cut no more behind", n)
				}
				break
			}
			for range 6 {
				back, which := reopened(t, r, s, h.Disk().Copy(), may)
				got[which]++
				read, _, e := house.Read(setup(64), may[which])
				ok(t, e)
				equal(t, n, picture(back), picture(read))
				if !back.Audit().Good {
					t.Fatal("a bad book")
				}
			}
		}
	}
	if min(got[0], got[1]) < 50 {
		t.Error("too few of a kind:", got)
	}
}

// P10.14: a house goes on from crash to crash.
func TestManyPowerCuts(t *testing.T) {
	for seed := range uint64(40) {
		r := dice(7000 + seed)
		s := anySetup(r)
		h := newHouse(t, s)
		h.Run(strings.Join(start(r), "\n"))
		p := &pair{setup: s, bales: 6}
		for range 25 {
			n := r.IntN(40)
			ok(t, h.Disk().Fuse(n))
			var lines []string
			for range 30 {
				lines = append(lines, plainLine(r, p))
			}
			may := cut(t, h, lines)
			if may == nil {
				may = [][]string{h.Book()}
			}
			h, _ = reopened(t, r, s, h.Disk().Copy(), may)
			if !h.Audit().Good {
				t.Fatal("a bad book")
			}
		}
	}
}

// P10.10: a house that finds no power answers so, behind the errors of the
// words, and only looks from then on.
func TestNoPower(t *testing.T) {
	h := newHouse(t, setup(64))
	h.Run(trade)
	ok(t, h.Disk().Fuse(0))
	before := image(h.Disk())
	answers := map[string]string{
		"lots": "l1 l2", "show 6": "b 1000 3 - 1:1000", "free zed": h.Exec("free zed"), "audit": h.Exec("audit"),
		"day x": "? word 1", "day": "? line", "day 1 1": "? line", "show 99": "! 7", "if": "? line", "if day x": "? word 1",
		"if lots": "l1 l2", "": "", "days": "? line", "dumps l1 1": "! 10",
	}
	for line, want := range answers {
		equal(t, line, h.Exec(line), want)
	}
	equal(t, "not tried yet", []string{h.Exec("day 1"), h.Exec("pay zed 0"), h.Exec("if day 1"), h.Exec("if day 11")},
		[]string{"! 10", "! 2", "! 10", "! 18"})
	equal(t, "still with power", image(h.Disk()), before)
	book := h.Book()
	equal(t, "no power", h.Exec("day 11"), "! 18")
	answers["day 1"], answers["pay zed 0"], answers["day 11"], answers["if day 11"] = "! 18", "! 18", "! 18", "! 18"
	answers["if day 1"], answers["clip m ?"], answers["knock 9"], answers["if if day 1"] = "! 18", "! 18", "! 18", "! 18"
	for _, h := range []*house.House{h, h.Copy(), h.Copy().Copy()} {
		refusals(t, h, answers)
		equal(t, "the book", h.Book(), book)
		_, e := h.Disk().Read(0)
		equal(t, "the disk", []api.Errno{e, h.Disk().Fuse(5)}, []api.Errno{api.ErrDisk, api.ErrDisk})
		d := h.Disk().Copy()
		ok(t, d.Crash([]int{64, 64}))
		equal(t, "recovered", recovered(t, setup(0), d).Book(), book)
	}
}

// P10.10, P10.16: a fuse burns down by what is written, and by nothing else; the
// answer of `if` is right with a fuse of any length.
func TestFuses(t *testing.T) {
	for _, sectors := range []int{16, 20, 48} {
		for n := range 150 {
			r := dice(uint64(9000 + n))
			h := newHouse(t, setup(sectors))
			ok(t, h.Disk().Fuse(n))
			for line := range strings.Lines(trade) {
				line = strings.TrimSuffix(line, "\n")
				guess := h.Exec("if " + line)
				if r.IntN(30) == 0 {
					h.Copy().Run(trade)
				}
				equal(t, line, guess, h.Exec(line))
			}
		}
	}
}
