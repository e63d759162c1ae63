package house_test

import (
	"fmt"
	"strings"
	"testing"

	"merino/api"
	"merino/house"
	"merino/journal"
)

// shelf is what the log on a disk shows: generation, room, state and records.
func shelf(t *testing.T, d *journal.Disk) string {
	t.Helper()
	l, e := journal.Open(d.Copy())
	ok(t, e)
	return fmt.Sprintf("%d %d %s %s", l.Generation(), l.Room(), l.State(), l.Records())
}

// generation is that of the log on a disk, and the room that is left there.
func generation(t *testing.T, d *journal.Disk) (int, int) {
	t.Helper()
	l, e := journal.Open(d.Copy())
	ok(t, e)
	equal(t, "pending", l.Pending(), 0)
	return l.Generation(), l.Room()
}

// many carries out a line again and again, and fails the test unless it is
// answered so.
func many(t *testing.T, h *house.House, n int, line, want string) {
	t.Helper()
	for range n {
		equal(t, line, h.Exec(line), want)
	}
}

// P10.10: every command that changes the house is in the log; a checkpoint is
// made when there is no room for the next one, not earlier.
func TestJournal(t *testing.T) {
	h := newHouse(t, setup(16))
	equal(t, "at first", shelf(t, h.Disk()), "1 7  []")
	example.hold(t, h)
	equal(t, "the example", shelf(t, h.Disk()), "2 4 clip m anna\nreceive 1 aa 180500\nlot l1 1\nbuyer zed 100000\n"+
		"enter l1 1 400 400\nbid zed l1 450\nstart 1\n [knock 1]")
	many(t, h, 4, " day  0", "ok")
	full := shelf(t, h.Disk())
	equal(t, "full", full[:4], "2 0 ")
	refusals(t, h, map[string]string{"day -1": "! 2", "day": "? line", "day x": "? word 1", "pay x 1": "! 7", "lots": "l1", "if day 0": "ok"})
	equal(t, "full", shelf(t, h.Disk()), full)
	many(t, h, 1, "day 0 ", "ok")
	equal(t, "a checkpoint", shelf(t, h.Disk()), "3 4 clip m anna\nreceive 1 aa 180500\nlot l1 1\nbuyer zed 100000\n"+
		"enter l1 1 400 400\nbid zed l1 450\nstart 1\nknock 1\nday 0\nday 0\nday 0\nday 0\n [day 0]")
	equal(t, "the book", bookOf(t, h.Disk()), h.Book())
}

// lotLines are commands of 43 and 44 bytes, which need one sector and two.
const (
	shortLot = "lot abcdefghijklmno 10 11 12 13 14 15 16 17"
	longLot  = "lot abcdefghijklmnop 10 11 12 13 14 15 16 17"
)

// P10.10: whether there is room for a command is a matter of its bytes.
func TestRoomForALine(t *testing.T) {
	for line, want := range map[string]string{shortLot: "1 0 ", longLot: "2 12 "} {
		h := newHouse(t, setup(40))
		equal(t, "a clip", h.Exec("clip m a"), "clip 1")
		for range 17 {
			h.Exec("receive 1 aa 1")
		}
		equal(t, "room for one", shelf(t, h.Disk())[:4], "1 1 ")
		equal(t, line, h.Exec(line), "ok")
		equal(t, line, strings.HasPrefix(shelf(t, h.Disk()), want), true)
		equal(t, line, bookOf(t, h.Disk()), h.Book())
	}
}

// P10.10, P10.16: a log that has no space left, though a checkpoint is made,
// refuses commands; the checkpoint stays, and nothing else is changed.
func TestNoSpace(t *testing.T) {
	h := newHouse(t, setup(16))
	many(t, h, 31, "day 100000", "ok")
	before := picture(h)
	g, room := generation(t, h.Disk())
	equal(t, "no room", room, 0)
	for i := range 5 {
		refusals(t, h, map[string]string{"if day 100000": "! 19", "day -1": "! 2", "lots": "", "if day -1": "! 2"})
		now, _ := generation(t, h.Disk())
		equal(t, "no checkpoint", now, g+i)
		equal(t, "no room", h.Exec("day 100000"), "! 19")
		now, room := generation(t, h.Disk())
		equal(t, "a checkpoint", []int{now, room}, []int{g + i + 1, 0})
	}
	equal(t, "the house", picture(h), before)
	equal(t, "the book", bookOf(t, h.Disk()), h.Book())
	again := recovered(t, setup(0), h.Disk().Copy())
	equal(t, "recovered", picture(again), before)
	equal(t, "recovered", again.Exec("day 100000"), "! 19")
}

// P10.10: what needs more sectors than a checkpoint leaves is refused, what
// needs fewer is not.
func TestLittleSpace(t *testing.T) {
	h := newHouse(t, setup(24))
	equal(t, "a clip", h.Exec("clip m a"), "clip 1")
	many(t, h, 1, "buyer zed 10000000", "ok")
	for i := range 17 {
		equal(t, i, h.Exec("receive 1 aa 1"), fmt.Sprint("bale ", i+1))
	}
	for h.Exec("if "+longLot) != "! 19" {
		many(t, h, 1, "day 0", "ok")
	}
	equal(t, "too long", h.Exec(longLot), "! 19")
	equal(t, "short enough", h.Exec(shortLot), "ok")
	equal(t, "the book", bookOf(t, h.Disk()), h.Book())
	equal(t, "the last", h.Book()[len(h.Book())-1], shortLot)
}

// P10.10: a book of more bytes than a state may have cannot be kept.
func TestLongBook(t *testing.T) {
	h := newHouse(t, setup(512))
	answer := "ok"
	for answer == "ok" {
		answer = h.Exec("day 0")
	}
	equal(t, "the last answer", answer, "! 3")
	if n := len(h.Book()); 6*n <= 8192 || n > 2000 {
		t.Error("the book has", n, "lines")
	}
	before := shelf(t, h.Disk())
	refusals(t, h, map[string]string{"day 0": "! 3", "if day 0": "! 3", "clip m a": "! 3", "day -1": "! 2", "pay x 1": "! 7"})
	equal(t, "the disk", shelf(t, h.Disk()), before)
	book := h.Book()
	equal(t, "the book", bookOf(t, h.Disk()), book)
	h = recovered(t, setup(0), h.Disk())
	equal(t, "recovered", h.Exec("day 0"), "! 3")
	other, no, e := house.Read(setup(512), book)
	equal(t, "read", []any{other == nil, no, e}, []any{false, 0, api.OK})
	sameDisk(t, "read", other.Disk(), h.Disk())
	other, no, e = house.Read(setup(512), append(book, "day 0"))
	equal(t, "read one more", []any{other == nil, no, e}, []any{true, len(book) + 1, api.ErrLimit})
	other, no, e = house.Read(setup(16), book)
	equal(t, "read on a small disk", []any{other == nil, no < 70, e}, []any{true, true, api.ErrSpace})
}

// P10.11: a book is read line by line.
func TestRead(t *testing.T) {
	long := strings.Repeat(" ", 200)
	for _, c := range []struct {
		book string
		no   int
		e    api.Errno
	}{
		{"", 1, api.ErrForm},
		{"day 1/", 2, api.ErrForm},
		{"day 1/  /day 2", 2, api.ErrForm},
		{"day 1/" + long + "/day 2", 2, api.ErrForm},
		{"day 1/" + long + " /day 2", 2, api.ErrForm},
		{"day 1/day 2" + long, 2, api.ErrForm},
		{"day 1/day 2\n", 2, api.ErrForm},
		{"day 1\nday 2", 1, api.ErrForm},
		{"day 1/day 2\t/day x", 2, api.ErrForm},
		{"day x", 1, api.ErrForm},
		{"day/day x", 1, api.ErrForm},
		{"hello", 1, api.ErrForm},
		{"clip m a/receive 1 AA 1", 2, api.ErrForm},
		{"clip m a/lots", 2, api.ErrForm},
		{"show 1", 1, api.ErrForm},
		{"audit", 1, api.ErrForm},
		{"free zed", 1, api.ErrForm},
		{"balance bank", 1, api.ErrForm},
		{"dumps l 0", 1, api.ErrForm},
		{"standing l", 1, api.ErrForm},
		{"turn l", 1, api.ErrForm},
		{"if", 1, api.ErrForm},
		{"day 1/if day 2", 2, api.ErrForm},
		{"if day -1", 1, api.ErrForm},
		{"if lots", 1, api.ErrForm},
		{"if day x", 1, api.ErrForm},
		{"day -1", 1, api.ErrArg},
		{"day 3/day 2/day x", 2, api.ErrState},
		{"day 3/pay zed 1/day x", 2, api.ErrNone},
		{"pay zed 0", 1, api.ErrArg},
		{"buyer a 1/buyer a 1", 2, api.ErrExists},
		{"clip m a/receive 1 aa 5/split 1 5", 3, api.ErrMass},
	} {
		h, no, e := house.Read(setup(16), strings.Split(c.book, "/"))
		equal(t, fmt.Sprintf("%q", c.book), []any{h == nil, no, e}, []any{true, c.no, c.e})
	}
	for _, book := range [][]string{nil, {}, {"day 1"}, {"  clip   m a", "day 5 "}} {
		h, no, e := house.Read(setup(16), book)
		equal(t, book, []any{no, e, len(h.Book())}, []any{0, api.OK, len(book)})
		want := newHouse(t, setup(16))
		want.Run(strings.Join(book, "\n"))
		equal(t, book, whole(h), whole(want))
	}
	h, _, _ := house.Read(setup(16), []string{"  clip   m a", "day 5 "})
	equal(t, "blanks", strings.Join(h.Book(), "/"), "clip m a/day 5")
}

// written is a disk with a log that has a state and records.
func written(t *testing.T, sectors int, state string, records ...string) *journal.Disk {
	t.Helper()
	d, e := journal.NewDisk(sectors)
	ok(t, e)
	l, e := journal.Open(d)
	ok(t, e, l.Checkpoint([]byte(state)))
	for _, record := range records {
		ok(t, l.Append([]byte(record)))
	}
	ok(t, l.Commit())
	return d
}

// P10.11: Recover reads the lines of the state, and then the records, on a disk
// of any size, and goes on there.
func TestRecover(t *testing.T) {
	for state, records := range map[string][]string{
		"":                            {},
		"clip m a\n":                  {"receive 1 aa 5"},
		"clip m a\nreceive 1 aa 5\n":  {},
		"clip m a\nreceive 1 aa 5":    {"day 5"},
		" clip  m a\nreceive 1 aa 5 ": {"day 5 ", "day   7"},
	} {
		for _, sectors := range []int{6, 10, 16, 512} {
			d := written(t, sectors, state, records...)
			h := recovered(t, setup(-1), d)
			if h.Disk() != d {
				t.Error("the house has another disk")
			}
			lines := strings.Split(state, "\n")
			var book []string
			for _, line := range append(lines, records...) {
				if words := strings.Fields(line); len(words) > 0 {
					book = append(book, strings.Join(words, " "))
				}
			}
			equal(t, state, strings.Join(h.Book(), "/"), strings.Join(book, "/"))
			want, _, e := house.Read(setup(512), book)
			ok(t, e)
			equal(t, state, picture(h), picture(want))
			equal(t, state, h.Exec("day 9"), "ok")
			equal(t, state, bookOf(t, d)[len(bookOf(t, d))-1], "day 9")
			equal(t, state, h.Book()[len(h.Book())-1], "day 9")
		}
	}
	// A disk without a log gets one.
	d, _ := journal.NewDisk(4)
	h := recovered(t, setup(0), d)
	equal(t, "a new log", []any{h.Book(), shelf(t, d)}, []any{[]string{}, "1 1  []"})
	equal(t, "a new log", h.Run("day 1\nday 2\nday 3\nday 4\n"), "ok\nok\nok\nok\n")
	equal(t, "a new log", shelf(t, d), "4 0 day 1\nday 2\nday 3\n [day 4]")
	// The line feed that a state lacks may be too much for a half.
	d = written(t, 4, strings.Repeat("day 5\n", 14)+"clip m a")
	h = recovered(t, setup(0), d)
	before := shelf(t, d)
	refusals(t, h, map[string]string{"day 6": "! 19", "if day 6": "! 19", "day 4": "! 10"})
	equal(t, "no checkpoint", shelf(t, d), before)
	d = written(t, 4, strings.Repeat("day 5\n", 14)+"clip a\n")
	_, e := house.Recover(setup(0), d)
	equal(t, "no clip", e, api.ErrForm)
}

// P10.11: a log that is no book, and a disk that is no disk, make no house; a
// disk on which no book stands stays as it is.
func TestNotRecovered(t *testing.T) {
	for state, records := range map[string][]string{
		"\n":                         {},
		"day 1\n\n":                  {},
		"day 1\n \nday 2\n":          {},
		"day 1\r\nday 2\n":           {},
		"lots\n":                     {},
		"if day 1\n":                 {},
		"day 1\nday 0\n":             {},
		"day 1\nday x\n":             {},
		"day 1\n":                    {"day 0"},
		"day 2\n":                    {""},
		"day 3\n":                    {"day 4\n"},
		"day 4\n":                    {"day 5\nday 6"},
		"day 5\n":                    {"day 6", "audit", "day 7"},
		"day 6\n":                    {"if day 6"},
		"day 7\n":                    {"day 7", strings.Repeat(" ", 199) + "day 7"},
		"buyer zed 5\nbuyer zed 5\n": {},
	} {
		d := written(t, 16, state, records...)
		before := d.Copy()
		h, e := house.Recover(setup(0), d)
		equal(t, state, []any{h == nil, e}, []any{true, api.ErrForm})
		sameDisk(t, state, d, before)
	}
	// Sectors that an unfinished call left are not cleared.
	d := written(t, 16, "day 1\n", "day 0")
	ok(t, d.Write(14, make([]byte, 64)), d.Write(15, []byte(strings.Repeat("x", 64))))
	before := d.Copy()
	h, e := house.Recover(setup(0), d)
	equal(t, "rubbish", []any{h == nil, e}, []any{true, api.ErrForm})
	sameDisk(t, "rubbish", d, before)
	// The power may be cut while Open clears them.
	ok(t, d.Fuse(0))
	h, e = house.Recover(setup(0), d)
	equal(t, "a fuse", []any{h == nil, e}, []any{true, api.ErrDisk})
	h, e = house.Recover(setup(0), d)
	equal(t, "no power", []any{h == nil, e}, []any{true, api.ErrDisk})
	for _, d := range []*journal.Disk{nil, {}} {
		h, e := house.Recover(setup(0), d)
		equal(t, "no disk", []any{h == nil, e}, []any{true, api.ErrNil})
	}
	// A setup that is not that of the house.
	h = newHouse(t, exampleSetup)
	example.hold(t, h)
	_, e = house.Recover(api.Setup{Rooms: 1, Scale: []api.Band{{Upto: 1000, Rate: 200}}}, h.Disk())
	equal(t, "a short scale", e, api.ErrForm)
	again := recovered(t, api.Setup{Rooms: 4, Scale: []api.Band{{Upto: 1 << 40, Rate: 1000}}}, h.Disk())
	equal(t, "another scale", balances(again, "b-zed g-anna fee"), "72000 -64800 -7200")
}

// P10.11: a disk whose writes were not synced yet is one with power.
func TestRecoverUnsynced(t *testing.T) {
	d := written(t, 16, "day 1\n", "day 2")
	other, _ := journal.NewDisk(16)
	for i := range 16 {
		data, e := d.Read(i)
		ok(t, e, other.Write(i, data))
	}
	ok(t, other.Fuse(0))
	h := recovered(t, setup(0), other)
	equal(t, "the book", h.Book(), []string{"day 1", "day 2"})
	equal(t, "a fuse", h.Exec("if day 2"), "! 18")
	ok(t, other.Fuse(100))
	equal(t, "on it goes", h.Run("day 2\nday 3\n"), "ok\nok\n")
	equal(t, "the disk", bookOf(t, other), h.Book())
	// The first command makes all of it lasting.
	ok(t, other.Crash(nil))
	equal(t, "the disk", bookOf(t, other), h.Book())
}

// P10.13: a house that reads the book of another one is the same house.
func TestReadAgain(t *testing.T) {
	for seed := range uint64(60) {
		r := dice(3000 + seed)
		s := anySetup(r)
		s.Sectors = 512
		p := newPair(t, s)
		for _, line := range start(r) {
			p.exec(t, line)
		}
		for range r.IntN(200) {
			p.exec(t, plainLine(r, p))
		}
		read, no, e := house.Read(s, p.house.Book())
		equal(t, seed, []any{no, e}, []any{0, api.OK})
		equal(t, seed, whole(read), whole(p.house))
		back := recovered(t, s, p.house.Disk().Copy())
		equal(t, seed, picture(back), picture(p.house))
		for range 40 {
			line := plainLine(r, p)
			want := p.exec(t, line)
			equal(t, line, []string{read.Exec(line), back.Exec(line)}, []string{want, want})
		}
		equal(t, seed, []bool{whole(read) == whole(p.house), picture(back) == picture(p.house)}, []bool{true, true})
		if t.Failed() {
			t.Fatalf("seed %d", seed)
		}
	}
}
