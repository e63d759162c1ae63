package house

import (
	"strconv"
	"strings"

	"merino/accounts"
	"merino/api"
	"merino/num"
)

// Audit returns what the house has, and whether that is good.
func (h *House) Audit() api.Audit {
	if !h.isHouse() {
		return api.Audit{}
	}
	a := api.Audit{Commands: len(h.book), Sold: h.sold()}
	h.weighAll(&a)
	isGood := a.In+a.Air == a.Live+a.Cored+a.Wasted+a.Sent
	sum := 0
	trial, _ := h.ledger.Trial(api.MaxDay)
	for _, p := range trial {
		sum += p.Cents
		if strings.HasPrefix(p.Account, buyerPrefix) {
			a.Money += p.Cents
		}
	}
	records := h.ledger.Records()
	paid, isCovered := h.checkBuyers()
	a.Good = isGood && sum == 0 && accounts.Verify(records) == len(records) && isCovered && a.Money == a.Sold-paid
	return a
}

// weighAll adds up the totals of all clips.
func (h *House) weighAll(a *api.Audit) {
	v := h.view()
	for _, clip := range v.Clips() {
		t, _ := v.Totals(clip.No)
		a.In += t.In
		a.Air += t.Air
		a.Live += t.Live
		a.Cored += t.Cored
		a.Wasted += t.Wasted
		a.Sent += t.Sent
	}
}

// sold returns what the lots were sold for.
func (h *House) sold() int {
	sum := 0
	for i := range api.MaxRooms {
		entries, _ := h.sale.Entries(i + 1) // none if there is no such room
		for _, e := range entries {
			if isSold(e) {
				sum += e.Price * e.Kilos
			}
		}
	}
	return sum
}

// checkBuyers returns what the buyers paid by the book, and whether the credit
// of none of them is overdrawn.
func (h *House) checkBuyers() (int, bool) {
	paid, isCovered := 0, true
	for _, line := range h.book {
		words := wordsOf(line)
		switch words[0] {
		case "pay":
			cents, _ := num.ParseDecimal(words[2], 0)
			paid += cents
		case "buyer":
			credit, _ := h.sale.Free(words[1])
			isCovered = isCovered && credit >= 0
		}
	}
	return paid, isCovered
}

// audit answers what Audit returns.
type audit struct{}

func (audit) run(h *House) (string, api.Errno) {
	a := h.Audit()
	words := []string{"bad"}
	if a.Good {
		words[0] = "good"
	}
	for _, n := range []int{a.Commands, a.In, a.Air, a.Live, a.Cored, a.Wasted, a.Sent, a.Sold, a.Money} {
		words = append(words, strconv.Itoa(n))
	}
	return strings.Join(words, " "), api.OK
}
