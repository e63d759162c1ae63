package house

import (
	"bytes"
	"strconv"
	"strings"

	"merino/api"
	"merino/press"
)

// mostInDump is how many bales a dump has at most.
const mostInDump = 3

// show answers what a bale is.
type show struct{ bale int }

func (s show) run(h *House) (string, api.Errno) {
	b, err := h.view().Bale(s.bale)
	if err != api.OK {
		return "", err
	}
	lot := b.Lot
	if lot == "" {
		lot = "-"
	}
	kind := string(bytes.TrimRight(b.Kind[:], "\x00"))
	words := []string{kind, strconv.Itoa(b.Grams), strconv.Itoa(b.State), lot}
	for _, p := range b.Parts {
		words = append(words, strconv.Itoa(p.Clip)+":"+strconv.Itoa(p.Grams))
	}
	return strings.Join(words, " "), api.OK
}

// lots answers the names of all lots.
type lots struct{}

func (lots) run(h *House) (string, api.Errno) {
	var names []string
	for _, lot := range h.view().Lots() {
		names = append(names, lot.Name)
	}
	return strings.Join(names, " "), api.OK
}

// standing answers who leads, and the standing price.
type standing struct{ lot string }

func (s standing) run(h *House) (string, api.Errno) {
	buyer, price, err := h.sale.Standing(s.lot)
	return buyer + " " + strconv.Itoa(price), err
}

// turn answers to whom a passed lot is offered.
type turn struct{ lot string }

func (t turn) run(h *House) (string, api.Errno) { return h.sale.Turn(t.lot) }

// free answers how much of a buyer's credit is not committed.
type free struct{ buyer string }

func (f free) run(h *House) (string, api.Errno) {
	cents, err := h.sale.Free(f.buyer)
	return strconv.Itoa(cents), err
}

// balance answers the balance of an account.
type balance struct{ account string }

func (b balance) run(h *House) (string, api.Errno) {
	cents, err := h.ledger.Balance(b.account, h.day)
	return strconv.Itoa(cents), err
}

// dumps answers how the bales of a lot are put into as few dumps as can be.
type dumps struct {
	lot   string
	grams int
}

func (d dumps) run(h *House) (string, api.Errno) {
	lot, err := h.unsent(d.lot)
	if err != api.OK {
		return "", err
	}
	var masses []int
	for _, b := range h.bales(lot) {
		masses = append(masses, b.Grams)
	}
	in, count, err := press.Pack(masses, d.grams, mostInDump)
	if err != api.OK {
		return "", err
	}
	packed := make([][]string, count)
	for i, dump := range in {
		packed[dump] = append(packed[dump], strconv.Itoa(lot.Bales[i]))
	}
	words := []string{strconv.Itoa(count)}
	for _, bales := range packed {
		words = append(words, strings.Join(bales, ","))
	}
	return strings.Join(words, " "), api.OK
}
