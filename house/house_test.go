package house_test

import (
	"fmt"
	"math"
	"slices"
	"strings"
	"testing"

	"merino/api"
	"merino/house"
	"merino/journal"
)

// example is that of the chapter.
const example talk = `clip m anna                 clip 1
	receive 1 aa 180500         bale 1
	lot l1 1                    ok
	buyer zed 100000            ok
	enter l1 1 400 400          ok
	bid zed l1 450              ok
	start 1                     l1
	knock 1                     sold l1 zed 400
	balance b-zed               72000
	audit                       good 8 180500 0 180500 0 0 0 72000 72000
	if send l1                  ok
	show 1                      aa 180500 1 l1 1:180500
	pay zed 0                   ! 2`

// exampleSetup is a setup for it.
var exampleSetup = api.Setup{Rooms: 1, Sectors: 32, Scale: []api.Band{{Upto: 1000000, Rate: 200}}}

// The example of the chapter, P10.9.
func TestExample(t *testing.T) {
	h := newHouse(t, exampleSetup)
	example.hold(t, h)
	equal(t, "the audit", h.Audit(), api.Audit{Commands: 8, In: 180500, Live: 180500, Sold: 72000, Money: 72000, Good: true})
	talk(`balance g-anna  -70560
	balance fee           -1440
	balance bank          0
	balance house         0`).hold(t, h)
}

// P10.1: a new house is empty, and its log is opened on a new disk.
func TestNew(t *testing.T) {
	for rooms := 1; rooms <= 4; rooms++ {
		for _, sectors := range []int{16, 18, 510, 512} {
			h := newHouse(t, api.Setup{Rooms: rooms, Sectors: sectors})
			equal(t, "the book", h.Book(), []string{})
			equal(t, "the audit", h.Audit(), api.Audit{Good: true})
			talk(`lots
			show 1          ! 7
			balance house   0
			balance bank    0
			balance fee     0
			balance b-zed   ! 7
			start 0         ! 2
			if day 0        ok`).hold(t, h)
			equal(t, "the last room", h.Exec(say("start", rooms)), "! 7")
			equal(t, "no room", h.Exec(say("start", rooms+1)), "! 2")
			d, e := journal.NewDisk(sectors)
			ok(t, e)
			_, e = journal.Open(d)
			ok(t, e)
			sameDisk(t, sectors, h.Disk(), d)
		}
	}
}

// P10.1, and P10.11 for the same errors of Read and Recover.
func TestSetups(t *testing.T) {
	long := make([]api.Band, 17)
	for i := range long {
		long[i] = api.Band{Upto: i + 1}
	}
	disk := newHouse(t, setup(16)).Disk()
	for _, c := range []struct {
		rooms, sectors int
		scale          []api.Band
		new, recover   api.Errno
	}{
		{1, 16, nil, api.OK, api.OK},
		{4, 512, long[:16], api.OK, api.OK},
		{0, 16, nil, api.ErrArg, api.ErrArg},
		{5, 16, nil, api.ErrArg, api.ErrArg},
		{math.MinInt, 16, nil, api.ErrArg, api.ErrArg},
		{math.MaxInt, 16, nil, api.ErrArg, api.ErrArg},
		{1, 14, nil, api.ErrArg, api.OK},
		{1, 17, nil, api.ErrArg, api.OK},
		{1, 511, nil, api.ErrArg, api.OK},
		{1, 514, nil, api.ErrArg, api.OK},
		{1, 4, nil, api.ErrArg, api.OK},
		{1, 0, nil, api.ErrArg, api.OK},
		{1, math.MinInt, nil, api.ErrArg, api.OK},
		{1, math.MaxInt, nil, api.ErrArg, api.OK},
		{1, 16, long, api.ErrLimit, api.ErrLimit},
		{0, 16, long, api.ErrArg, api.ErrArg},
		{1, 15, long, api.ErrArg, api.ErrLimit},
		{1, 16, []api.Band{{Upto: 0}}, api.ErrArg, api.ErrArg},
		{1, 16, []api.Band{{Upto: 5}, {Upto: 5}}, api.ErrArg, api.ErrArg},
		{1, 16, []api.Band{{Upto: 1 << 40, Rate: 10000}}, api.OK, api.OK},
		{1, 16, []api.Band{{Upto: 1<<40 + 1}}, api.ErrArg, api.ErrArg},
		{1, 16, []api.Band{{Upto: 5, Rate: 10001}}, api.ErrArg, api.ErrArg},
		{1, 16, []api.Band{{Upto: 5, Rate: -1}}, api.ErrArg, api.ErrArg},
	} {
		s := api.Setup{Rooms: c.rooms, Sectors: c.sectors, Scale: c.scale}
		h, e := house.New(s)
		equal(t, s, []any{h == nil, e}, []any{c.new != api.OK, c.new})
		h, no, e := house.Read(s, []string{"lots"})
		if c.new != api.OK {
			equal(t, s, []any{h == nil, no, e}, []any{true, 0, c.new})
		}
		h, e = house.Recover(s, disk.Copy())
		equal(t, s, []any{h == nil, e}, []any{c.recover != api.OK, c.recover})
	}
	// The setup is at fault ahead of the disk.
	_, e := house.Recover(api.Setup{}, nil)
	equal(t, "no setup, no disk", e, api.ErrArg)
}

// P10.12: a text is its lines; what a line without words answers is nothing,
// what lots answers may be an empty line.
func TestRun(t *testing.T) {
	for text, want := range map[string]string{
		"":                             "",
		"\n":                           "",
		"\n\n   \n":                    "",
		"lots":                         "\n",
		"lots\n":                       "\n",
		"lots\n\nlots":                 "\n\n",
		"day 1":                        "ok\n",
		"day 1\n\n  \nday 2\n":         "ok\nok\n",
		"day 2\nday 1\nday\nbalance\n": "ok\n! 10\n? line\n? line\n",
		"day 1\r\nday 2":               "? line\nok\n",
		" day  1 \n  if day 0":         "ok\n! 10\n",
		"\tday 1":                      "? line\n",
		"clip m anna\nreceive 1 aa 9\nlot l 1\nlots\nif lots": "clip 1\nbale 1\nok\nl\nl\n",
		"day 1\x00\nday 3\nday x":                             "? line\nok\n? word 1\n",
	} {
		h := newHouse(t, setup(16))
		equal(t, fmt.Sprintf("%q", text), h.Run(text), want)
		g := newHouse(t, setup(16))
		for _, line := range strings.Split(text, "\n") {
			g.Exec(line)
		}
		equal(t, text, whole(h), whole(g))
	}
}

// P10.12, and rule 3 of the document: a nil or zero House.
func TestNoHouse(t *testing.T) {
	for _, h := range []*house.House{nil, {}} {
		equal(t, "answers", []string{h.Exec("day 1"), h.Exec("lots"), h.Exec("?"), h.Run("day 1\nlots\n"), h.Run("")}, make([]string, 5))
		equal(t, "the book", len(h.Book()), 0)
		equal(t, "the audit", h.Audit(), api.Audit{})
		equal(t, "disk and copy", []any{h.Disk() == nil, h.Copy() == nil}, []any{true, true})
	}
}

// P10.12: a copy is as the house is, with its disk, its fuse and all; what is
// done to one of them plays no part in the other.
func TestCopy(t *testing.T) {
	for seed := range uint64(80) {
		r := dice(2000 + seed)
		p := newPair(t, anySetup(r))
		for _, line := range start(r) {
			p.exec(t, line)
		}
		for range r.IntN(150) {
			p.exec(t, plainLine(r, p))
		}
		if r.IntN(2) == 0 {
			n := r.IntN(30)
			p.model.fuse(n)
			ok(t, p.house.Disk().Fuse(n))
		}
		for range r.IntN(20) {
			p.exec(t, plainLine(r, p))
		}
		first := p.house.Copy()
		second := &pair{p.house.Copy().Copy(), p.model.again(), p.setup, p.bales, p.seen}
		sameDisk(t, seed, first.Disk(), p.house.Disk())
		equal(t, seed, picture(first), picture(p.house))
		if first.Disk() == p.house.Disk() {
			t.Fatal("a copy has the disk of the house")
		}
		before := picture(first)
		disk := first.Disk().Copy()
		for range 40 {
			p.exec(t, plainLine(r, p))
			second.exec(t, plainLine(r, second))
		}
		p.check(t, seed)
		second.check(t, seed)
		equal(t, seed, picture(first), before)
		sameDisk(t, seed, first.Disk(), disk)
		if t.Failed() {
			t.Fatalf("seed %d", seed)
		}
	}
}

// Rule 4 of the document: no function changes or keeps an argument, and a book
// is new memory.
func TestMemory(t *testing.T) {
	scale := []api.Band{{Upto: 1000000, Rate: 200}}
	s := api.Setup{Rooms: 1, Sectors: 32, Scale: scale}
	h := newHouse(t, s)
	lines := []string{"clip m anna", "day  5"}
	other, _, e := house.Read(s, lines)
	ok(t, e)
	equal(t, "the lines", lines, []string{"clip m anna", "day  5"})
	again := recovered(t, s, other.Disk().Copy())
	scale[0] = api.Band{}
	lines[0] = "day 7"
	for i, h := range []*house.House{h, other, again} {
		if i > 0 {
			h.Book()[0] = "day 9"
			book := h.Book()
			_ = append(book[:1], "day 8")
			equal(t, "the book", h.Book(), []string{"clip m anna", "day 5"})
		} else {
			example.hold(t, h)
		}
	}
	sell := talk(`receive 1 aa 1000  bale 1
	lot l 1                  ok
	buyer b 1000             ok
	enter l 1 100 100        ok
	bid b l 100              ok
	start 1                  l
	knock 1                  sold l b 100
	balance fee              -2`)
	sell.hold(t, other)
	sell.hold(t, again)
	equal(t, "the books", slices.Equal(other.Book(), again.Book()), true)
}
