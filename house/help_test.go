package house_test

import (
	"fmt"
	"math/rand/v2"
	"slices"
	"strings"
	"testing"

	"merino/api"
	"merino/house"
	"merino/journal"
)

// dice gives the same numbers in every run.
func dice(seed uint64) *rand.Rand { return rand.New(rand.NewPCG(seed, 10)) }

// equal fails the test unless two values print alike.
func equal(t *testing.T, what, got, want any) {
	t.Helper()
	if fmt.Sprintf("%v", got) != fmt.Sprintf("%v", want) {
		t.Errorf("%v: got %v; want %v", what, got, want)
	}
}

// ok fails the test unless all calls succeeded.
func ok(t *testing.T, errs ...api.Errno) {
	t.Helper()
	for i, e := range errs {
		if e != api.OK {
			t.Fatalf("call %d: error %d", i, e)
		}
	}
}

// setup is one of two rooms, and a brokerage of a fiftieth.
func setup(sectors int) api.Setup {
	return api.Setup{Rooms: 2, Sectors: sectors, Scale: []api.Band{{Upto: 1 << 40, Rate: 200}}}
}

// newHouse is a house, or the test fails.
func newHouse(t *testing.T, s api.Setup) *house.House {
	t.Helper()
	h, e := house.New(s)
	ok(t, e)
	return h
}

// talk is lines with what is answered to them: a line, two or more blanks, and
// the answer (nothing for an empty one).
type talk string

// hold holds a talk with a house, and fails the test where an answer differs.
func (script talk) hold(t *testing.T, h *house.House) {
	t.Helper()
	for line := range strings.Lines(string(script)) {
		said, want, _ := strings.Cut(strings.TrimSpace(line), "  ")
		if got := h.Exec(said); got != strings.TrimSpace(want) {
			t.Errorf("%s: got %q; want %q", said, got, strings.TrimSpace(want))
		}
	}
}

// image is all sectors of a disk that has power, and how often it was written.
func image(d *journal.Disk) string {
	var all strings.Builder
	for i := range d.Sectors() {
		data, e := d.Read(i)
		fmt.Fprintln(&all, data, e)
	}
	return fmt.Sprint(all.String(), d.Writes())
}

// questions look at all that a house of the tests may have.
var questions = func() []string {
	list := []string{"audit", "lots", "balance house", "balance bank", "balance fee"}
	for no := range 40 {
		list = append(list, fmt.Sprint("show ", no))
	}
	for _, lot := range lotNames {
		list = append(list, "standing "+lot, "turn "+lot, "dumps "+lot+" 1000000")
	}
	for _, buyer := range buyerNames {
		list = append(list, "free "+buyer, "balance b-"+buyer)
	}
	for _, owner := range ownerNames {
		list = append(list, "balance g-"+owner)
	}
	return list
}()

// names that the tests' houses use.
var (
	lotNames   = []string{"l1", "l2", "l3", "l4", "l5", "l6"}
	buyerNames = []string{"zed", "yan", "xi", "w234567890123", "v2345678901234", "u23456789012345"}
	ownerNames = []string{"anna", "bert", "c", "d234567890123", "e2345678901234", "f23456789012345"}
)

// picture is all that a house shows but for its disk.
func picture(h *house.House) string {
	var all strings.Builder
	fmt.Fprintln(&all, h.Book(), h.Audit())
	for _, question := range questions {
		fmt.Fprintln(&all, question, h.Exec(question))
	}
	return all.String()
}

// whole is all that a house shows, with its disk.
func whole(h *house.House) string { return picture(h) + image(h.Disk()) }

// refusals fails the test unless each line is answered so, and leaves all as it
// was.
func refusals(t *testing.T, h *house.House, answers map[string]string) {
	t.Helper()
	before := whole(h)
	for line, want := range answers {
		equal(t, line, h.Exec(line), want)
	}
	if after := whole(h); after != before {
		t.Errorf("what is refused changed the house from\n%s\nto\n%s", before, after)
	}
}

// bookOf is the book that stands in the log on a disk, which stays as it is.
func bookOf(t *testing.T, d *journal.Disk) []string {
	t.Helper()
	l, e := journal.Open(d.Copy())
	ok(t, e)
	var book []string
	for line := range strings.Lines(string(l.State())) {
		book = append(book, strings.TrimSuffix(line, "\n"))
	}
	for _, record := range l.Records() {
		book = append(book, string(record))
	}
	return book
}

// recovered is the house whose book stands on a disk.
func recovered(t *testing.T, s api.Setup, d *journal.Disk) *house.House {
	t.Helper()
	h, e := house.Recover(s, d)
	ok(t, e)
	return h
}

// isRefused tells whether an answer is that of a line that did nothing.
func isRefused(answer string) bool {
	return strings.HasPrefix(answer, "!") || strings.HasPrefix(answer, "?")
}

// firstPart are the commands that change a house.
var firstPart = strings.Fields(`clip receive split merge core weigh hold release waste lot unlot send day buyer enter
	bid start knock withdraw lower accept decline pay draw`)

// changes tells whether a line has a command that changes a house.
func changes(line string) bool {
	words := strings.Fields(line)
	return len(words) > 0 && slices.Contains(firstPart, words[0])
}
