package house_test

import (
	"fmt"
	"regexp"
	"slices"
	"sort"
	"strconv"
	"strings"

	"merino/accounts"
	"merino/api"
	"merino/journal"
	"merino/num"
	"merino/press"
	"merino/room"
	"merino/stock"
)

// model is a house in the words of the chapter. Its log stands on its disk; it
// is copied by living all of its past again.
type model struct {
	setup  api.Setup
	store  *stock.Store
	sale   *room.Sale
	ledger *accounts.Ledger
	day    int
	book   []string
	buyers []string
	paid   int
	disk   *journal.Disk
	log    *journal.Log
	isOff  bool
	past   []func(m *model)
}

// newModel is the model of a house that New makes.
func newModel(s api.Setup) *model {
	m := &model{setup: s, store: stock.New(), ledger: accounts.New()}
	m.sale, _ = room.New(s.Rooms)
	for _, name := range []string{"house", "bank", "fee"} {
		m.ledger.Open(name)
	}
	m.disk, _ = journal.NewDisk(s.Sectors)
	m.log, _ = journal.Open(m.disk)
	return m
}

// again is the model of a copy.
func (m *model) again() *model {
	c := newModel(m.setup)
	for _, event := range m.past {
		event(c)
	}
	c.past = slices.Clone(m.past)
	return c
}

// fuse sets the fuse of the disk.
func (m *model) fuse(n int) {
	m.past = append(m.past, func(m *model) { m.disk.Fuse(n) })
	m.disk.Fuse(n)
}

// run is what a line is answered. Lines of the second part leave no trace.
func (m *model) run(line string) string {
	if changes(line) {
		m.past = append(m.past, func(m *model) { m.live(line) })
	}
	return m.live(line)
}

// shapes are the parameters of the commands: w a word, n a number, k a kind; a
// plus sign where the numbers go on, up to 16.
var shapes = map[string]string{
	"clip": "ww", "receive": "nkn", "split": "nn", "merge": "nn+", "core": "nn", "weigh": "nn", "hold": "n", "release": "n",
	"waste": "n", "lot": "wn+", "unlot": "w", "send": "w", "day": "n", "buyer": "wn", "enter": "wnnn", "bid": "wwn",
	"start": "n", "knock": "n", "withdraw": "w", "lower": "wn", "accept": "ww", "decline": "ww", "pay": "wn", "draw": "wn",
	"show": "n", "lots": "", "standing": "w", "turn": "w", "free": "w", "balance": "w", "dumps": "wn", "audit": "",
}

// forms are what words must look like.
var forms = map[byte]*regexp.Regexp{
	'n': regexp.MustCompile(`^(0|-?[1-9][0-9]{0,16})$`),
	'k': regexp.MustCompile(`^[a-z0-9]{1,4}$`),
	'w': regexp.MustCompile(``),
}

// judge is what is answered to words that are wrong, or nothing.
func judge(words []string) string {
	shape, isThere := shapes[words[0]]
	params := words[1:]
	if base, goesOn := strings.CutSuffix(shape, "+"); goesOn {
		most := 16
		if base[0] == 'w' {
			most = 17
		}
		shape = base
		if len(params) > len(base) && len(params) <= most {
			shape += strings.Repeat("n", len(params)-len(base))
		}
	}
	if !isThere || len(params) != len(shape) {
		return "? line"
	}
	for i, word := range params {
		n, _ := strconv.Atoi(word)
		if !forms[shape[i]].MatchString(word) || shape[i] == 'n' && (n < -1<<50 || n > 1<<50) {
			return fmt.Sprint("? word ", i+1)
		}
	}
	return ""
}

// blanks are what stands between words.
var blanks = regexp.MustCompile(` +`)

// live carries out a line.
func (m *model) live(line string) string {
	line = strings.Trim(line, " ")
	if line == "" {
		return ""
	}
	words := blanks.Split(line, -1)
	if words[0] == "if" {
		if len(words) == 1 {
			return "? line"
		}
		return m.again().live(strings.Join(words[1:], " "))
	}
	if fault := judge(words); fault != "" {
		return fault
	}
	if !slices.Contains(firstPart, words[0]) {
		return m.look(words)
	}
	if m.isOff {
		return "! 18"
	}
	old := *m
	old.store, old.sale, old.ledger = m.store.Copy(), m.sale.Copy(), m.ledger.Copy()
	answer, e := m.change(words)
	if e == api.OK {
		e = m.record(strings.Join(words, " "))
	}
	if e != api.OK {
		old.isOff = e == api.ErrDisk
		*m = old
		return fmt.Sprint("! ", int(e))
	}
	return answer
}

// record writes a line of the book.
func (m *model) record(line string) api.Errno {
	frames := 3 + len(line) + 3
	if (frames+48)/49 > m.log.Room() {
		state := strings.Join(append(slices.Clone(m.book), ""), "\n")
		if e := m.log.Checkpoint([]byte(state)); e != api.OK {
			return e
		}
	}
	if (frames+48)/49 > m.log.Room() {
		return api.ErrSpace
	}
	m.log.Append([]byte(line))
	if e := m.log.Commit(); e != api.OK {
		return e
	}
	m.book = append(slices.Clone(m.book), line)
	return api.OK
}

// number is a word as a number.
func number(word string) int {
	n, _ := strconv.Atoi(word)
	return n
}

// numbers are words as numbers.
func numbers(words []string) []int {
	var list []int
	for _, word := range words {
		list = append(list, number(word))
	}
	return list
}

// plain answers ok.
func plain(e api.Errno) (string, api.Errno) { return "ok", e }

// counted answers a number behind a word.
func counted(word string) func(no int, e api.Errno) (string, api.Errno) {
	return func(no int, e api.Errno) (string, api.Errno) { return fmt.Sprint(word, " ", no), e }
}

// change carries out a command of the first part.
func (m *model) change(words []string) (string, api.Errno) {
	p := append(slices.Clone(words[1:]), "", "", "")
	n := numbers(p)
	switch words[0] {
	case "clip":
		return counted("clip")(m.store.Clip(p[0], p[1]))
	case "receive":
		var kind api.Kind
		copy(kind[:], p[1])
		return counted("bale")(m.store.Receive(n[0], kind, n[2]))
	case "split":
		return counted("bale")(m.store.Split(n[0], n[1]))
	case "merge":
		return counted("bale")(m.store.Merge(numbers(words[1:])))
	case "core":
		return plain(m.store.Core(n[0], n[1]))
	case "weigh":
		return plain(m.store.Weigh(n[0], n[1]))
	case "hold":
		return plain(m.store.Hold(n[0]))
	case "release":
		return plain(m.store.Release(n[0]))
	case "waste":
		return plain(m.store.Waste(n[0]))
	case "lot":
		return plain(m.store.Lot(p[0], numbers(words[2:])))
	case "unlot", "send":
		return plain(m.leave(words[0], p[0]))
	case "day":
		if n[0] < 0 || n[0] > 1000000 {
			return "", api.ErrArg
		}
		if n[0] < m.day {
			return "", api.ErrState
		}
		m.day = n[0]
		return "ok", api.OK
	}
	return m.trade(words[0], p, n)
}

// trade carries out a command of the sale and of money.
func (m *model) trade(name string, p []string, n []int) (string, api.Errno) {
	switch name {
	case "buyer":
		if e := m.sale.Buyer(p[0], n[1]); e != api.OK {
			return "", e
		}
		m.buyers = append(slices.Clone(m.buyers), p[0])
		return plain(m.ledger.Open("b-" + p[0]))
	case "enter":
		return plain(m.enter(p[0], n[1], n[2], n[3]))
	case "bid":
		return plain(m.sale.Bid(p[0], p[1], n[2]))
	case "start":
		entry, e := m.sale.Start(n[0])
		return entry.Lot, e
	case "knock":
		return m.sold(m.sale.Knock(n[0]))
	case "withdraw":
		return plain(m.sale.Withdraw(p[0]))
	case "lower":
		return plain(m.sale.Lower(p[0], n[1]))
	case "accept":
		return m.sold(m.sale.Accept(p[0], p[1]))
	case "decline":
		return plain(m.sale.Decline(p[0], p[1]))
	case "pay":
		m.paid += n[1]
		return plain(m.pay("bank", "b-"+p[0], "b-"+p[0], n[1]))
	default:
		return plain(m.pay("g-"+p[0], "bank", "g-"+p[0], n[1]))
	}
}

// view looks at the store as it is.
func (m *model) view() *stock.View {
	v, _ := m.store.At(m.store.Version())
	return v
}

// leave is unlot or send.
func (m *model) leave(name, lot string) api.Errno {
	if _, e := m.view().Lot(lot); e != api.OK {
		return api.ErrNone
	}
	entry, e := m.sale.Entry(lot)
	isIn := e == api.OK
	if name == "unlot" {
		if isIn && entry.State != api.EntryWithdrawn {
			return api.ErrState
		}
		return m.store.Unlot(lot)
	}
	if !isIn || entry.State != api.EntrySold && entry.State != api.EntryDealt {
		return api.ErrState
	}
	return m.store.Send(lot)
}

// enter puts a lot into the sale.
func (m *model) enter(name string, no, open, reserve int) api.Errno {
	lot, e := m.view().Lot(name)
	if e != api.OK {
		return api.ErrNone
	}
	if lot.Sent {
		return api.ErrState
	}
	mass := 0
	for _, no := range lot.Bales {
		b, _ := m.view().Bale(no)
		mass += b.Grams
	}
	return m.sale.Enter(api.Entry{Lot: name, Room: no, Kilos: mass / 1000, Open: open, Reserve: reserve})
}

// pay is pay or draw.
func (m *model) pay(to, from, party string, cents int) api.Errno {
	if cents < 1 {
		return api.ErrArg
	}
	if _, e := m.ledger.Balance(party, 0); e != api.OK {
		return api.ErrNone
	}
	_, e := m.ledger.Post(m.day, []api.Posting{{Account: to, Cents: cents}, {Account: from, Cents: -cents}})
	return e
}

// sold is what comes of an entry that was knocked down, passed or accepted.
func (m *model) sold(entry api.Entry, e api.Errno) (string, api.Errno) {
	if e != api.OK {
		return "", e
	}
	if entry.State == api.EntryPassed {
		return "passed " + entry.Lot, api.OK
	}
	clips := m.view().Clips()
	grams := map[string]int{}
	for _, b := range m.view().Bales() {
		for _, part := range b.Parts {
			if b.Lot == entry.Lot && b.State == api.BaleLotted {
				grams[clips[part.Clip-1].Owner] += part.Grams
			}
		}
	}
	var owners []string
	for owner := range grams {
		owners = append(owners, owner)
	}
	sort.Strings(owners)
	var weights []int
	for _, owner := range owners {
		weights = append(weights, grams[owner])
	}
	return fmt.Sprint("sold ", entry.Lot, " ", entry.Buyer, " ", entry.Price), m.share(entry, owners, weights)
}

// share posts what an entry was sold for.
func (m *model) share(entry api.Entry, owners []string, weights []int) api.Errno {
	value := entry.Price * entry.Kilos
	shares, e := num.Apportion(value, weights)
	if e != api.OK {
		return e
	}
	kept := 0
	paid := map[string]int{}
	for i, owner := range owners {
		fee, e := accounts.Charge(shares[i], m.setup.Scale)
		if e != api.OK {
			return e
		}
		kept += fee
		paid[owner] = shares[i] - fee
	}
	postings := []api.Posting{{Account: "b-" + entry.Buyer, Cents: value}}
	for _, owner := range owners {
		if paid[owner] == 0 {
			continue
		}
		postings = append(postings, api.Posting{Account: "g-" + owner, Cents: -paid[owner]})
		if _, e := m.ledger.Balance("g-"+owner, 0); e == api.ErrNone {
			if e := m.ledger.Open("g-" + owner); e != api.OK {
				return e
			}
		}
	}
	if kept != 0 {
		postings = append(postings, api.Posting{Account: "fee", Cents: -kept})
	}
	if len(postings) == 1 {
		return api.OK
	}
	_, e = m.ledger.Post(m.day, postings)
	return e
}

// look carries out a command that only looks.
func (m *model) look(words []string) string {
	p := append(slices.Clone(words[1:]), "", "")
	answer, e := "", api.OK
	switch words[0] {
	case "show":
		answer, e = m.show(number(p[0]))
	case "lots":
		var names []string
		for _, lot := range m.view().Lots() {
			names = append(names, lot.Name)
		}
		answer = strings.Join(names, " ")
	case "standing":
		buyer, price, err := m.sale.Standing(p[0])
		answer, e = fmt.Sprint(buyer, " ", price), err
	case "turn":
		answer, e = m.sale.Turn(p[0])
	case "free":
		cents, err := m.sale.Free(p[0])
		answer, e = fmt.Sprint(cents), err
	case "balance":
		cents, err := m.ledger.Balance(p[0], m.day)
		answer, e = fmt.Sprint(cents), err
	case "dumps":
		answer, e = m.dumps(p[0], number(p[1]))
	case "audit":
		a := m.audit()
		word := map[bool]string{true: "good", false: "bad"}[a.Good]
		answer = fmt.Sprint(word, " ", a.Commands, " ", a.In, " ", a.Air, " ", a.Live, " ", a.Cored, " ", a.Wasted, " ",
			a.Sent, " ", a.Sold, " ", a.Money)
	}
	if e != api.OK {
		return fmt.Sprint("! ", int(e))
	}
	return answer
}

// show is a bale.
func (m *model) show(no int) (string, api.Errno) {
	b, e := m.view().Bale(no)
	if e != api.OK {
		return "", e
	}
	answer := fmt.Sprint(strings.Trim(string(b.Kind[:]), "\x00"), " ", b.Grams, " ", b.State)
	if b.Lot == "" {
		b.Lot = "-"
	}
	answer += " " + b.Lot
	for _, part := range b.Parts {
		answer += fmt.Sprintf(" %d:%d", part.Clip, part.Grams)
	}
	return answer, api.OK
}

// dumps are those of a lot.
func (m *model) dumps(name string, most int) (string, api.Errno) {
	lot, e := m.view().Lot(name)
	if e != api.OK {
		return "", e
	}
	if lot.Sent {
		return "", api.ErrState
	}
	var masses []int
	for _, no := range lot.Bales {
		b, _ := m.view().Bale(no)
		masses = append(masses, b.Grams)
	}
	in, boxes, e := press.Pack(masses, most, 3)
	answer := fmt.Sprint(boxes)
	for box := range boxes {
		sign := " "
		for i, no := range lot.Bales {
			if in[i] == box {
				answer += fmt.Sprint(sign, no)
				sign = ","
			}
		}
	}
	return answer, e
}

// audit is what Audit finds.
func (m *model) audit() api.Audit {
	a := api.Audit{Commands: len(m.book), Good: true}
	for _, clip := range m.view().Clips() {
		t, _ := m.view().Totals(clip.No)
		a.In, a.Air, a.Live = a.In+t.In, a.Air+t.Air, a.Live+t.Live
		a.Cored, a.Wasted, a.Sent = a.Cored+t.Cored, a.Wasted+t.Wasted, a.Sent+t.Sent
	}
	for no := 1; no <= m.setup.Rooms; no++ {
		entries, _ := m.sale.Entries(no)
		for _, e := range entries {
			a.Sold += e.Price * e.Kilos // 0 unless it is sold or dealt
		}
	}
	for _, buyer := range m.buyers {
		cents, _ := m.ledger.Balance("b-"+buyer, api.MaxDay)
		a.Money += cents
		left, _ := m.sale.Free(buyer)
		a.Good = a.Good && left >= 0
	}
	sum := 0
	trial, _ := m.ledger.Trial(api.MaxDay)
	for _, p := range trial {
		sum += p.Cents
	}
	records := m.ledger.Records()
	a.Good = a.Good && a.In+a.Air == a.Live+a.Cored+a.Wasted+a.Sent && sum == 0 &&
		accounts.Verify(records) == len(records) && a.Money == a.Sold-m.paid
	return a
}
