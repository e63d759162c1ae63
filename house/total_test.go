package house_test

import (
	"fmt"
	"math"
	"slices"
	"strings"
	"testing"

	"merino/api"
	"merino/house"
	"merino/journal"
)

// hostile are ints at and round the limits.
var hostile = []int{
	math.MinInt, -1 << 50, -1, 0, 1, 2, 4, 5, 15, 16, 17, 64, 512, 513, 514, 1 << 20, 1 << 40, 1<<50 + 1, math.MaxInt,
}

// answers calls every function of the package with arguments made of a, b and
// c, and returns what they answer.
func answers(a, b, c int) []string {
	var all []string
	say := func(results ...any) { all = append(all, fmt.Sprint(results...)) }
	s := api.Setup{Rooms: a, Sectors: b, Scale: []api.Band{{Upto: c, Rate: a}, {Upto: 1 << 40, Rate: b}}}
	h, e := house.New(s)
	say(h != nil, e)
	lines := []string{fmt.Sprint("day ", a), "clip m a", fmt.Sprint("receive 1 aa ", b), fmt.Sprint("buyer z ", c)}
	g, no, e := house.Read(s, lines)
	say(g != nil, no, e)
	s = api.Setup{Rooms: 1, Sectors: 64, Scale: []api.Band{{Upto: 1 << 40, Rate: 300}}}
	g, no, e = house.Read(s, lines)
	say(g != nil, no, e)
	k, _ := house.New(s)
	k.Run(trade)
	disk, _ := journal.NewDisk(b)
	f, e := house.Recover(s, disk)
	say(f != nil, e)
	f, e = house.Recover(s, k.Disk().Copy())
	say(f != nil, e)
	for _, h := range []*house.House{nil, {}, h, g, k, f} {
		for _, d := range []*house.House{h, h.Copy()} {
			for _, name := range append(firstPart, "show", "lots", "standing", "turn", "free", "balance", "dumps", "audit", "if day") {
				say(d.Exec(fmt.Sprint(name, " ", a)), d.Exec(fmt.Sprint(name, " ", a, " ", b)), d.Exec(fmt.Sprint("if ", name, " l1 ", c)),
					d.Exec(fmt.Sprint(name, " l1 ", a, " ", b, " ", c)), d.Exec(fmt.Sprint(name, " zed l1 ", b)), d.Exec(name+" zed l1"))
			}
			say(d.Run(strings.Join(lines, "\n")), d.Book(), d.Audit(), d.Disk().Writes())
			say(d.Disk().Fuse(c), d.Run(trade), d.Book(), d.Audit(), d.Disk().Writes())
		}
	}
	return all
}

// P1 and P2 of the document: every call ends without a panic, whatever its
// arguments, and answers the same when it is made again.
func TestEveryCallAnswers(t *testing.T) {
	for i, a := range hostile {
		for j, b := range hostile {
			if (i+j)%3 > 0 {
				continue // all of them take long
			}
			c := hostile[(i+5*j)%len(hostile)]
			if first := answers(a, b, c); !slices.Equal(first, answers(a, b, c)) {
				t.Error(a, b, c, first)
			}
		}
	}
}

// P1: bytes of any kind make no panic, and change nothing but by commands.
func TestAnyBytes(t *testing.T) {
	for seed := range uint64(300) {
		r := dice(11000 + seed)
		h := newHouse(t, setup(64))
		h.Run(trade)
		for range 60 {
			text := []byte(plainLine(r, &pair{setup: setup(64), bales: 6}) + " ")
			for range r.IntN(4) {
				text[r.IntN(len(text))] = []byte{0, ' ', '\n', '-', '0', 'a', 127, 255, byte(r.IntN(256))}[r.IntN(9)]
			}
			before := h.Book()
			answers := h.Run(string(text))
			refused := strings.Count("\n"+answers, "\n?") + strings.Count("\n"+answers, "\n!")
			if most := strings.Count(answers, "\n") - refused; len(h.Book())-len(before) > most {
				t.Errorf("%q: %q", text, answers)
			}
		}
		read, _, e := house.Read(setup(512), h.Book())
		ok(t, e)
		equal(t, seed, picture(read), picture(h))
		equal(t, "the disk", bookOf(t, h.Disk()), h.Book())
	}
}

// P1: Recover of disks on which anything stands.
func TestAnyDisk(t *testing.T) {
	for seed := range uint64(300) {
		r := dice(13000 + seed)
		s := setup(48)
		h := newHouse(t, s)
		h.Run(trade)
		d := h.Disk().Copy()
		for range 1 + r.IntN(3) {
			i := r.IntN(d.Sectors())
			data, e := d.Read(i)
			ok(t, e)
			data[r.IntN(64)] ^= byte(1 + r.IntN(255))
			ok(t, d.Write(i, data))
		}
		back, e := house.Recover(s, d)
		if (back == nil) != (e == api.ErrForm) {
			t.Fatal(seed, e)
		}
		if back != nil {
			n := len(back.Book())
			equal(t, seed, back.Book(), h.Book()[:n])
			equal(t, seed, back.Audit().Good, true)
		}
	}
}
