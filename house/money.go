package house

import (
	"slices"
	"strconv"

	"merino/accounts"
	"merino/api"
	"merino/num"
)

// The accounts that every house has, but for its own, and what the names of the
// others begin with.
const (
	bankAccount = "bank"
	feeAccount  = "fee"
	buyerPrefix = "b-"
	ownerPrefix = "g-"
)

// buyerAccount returns the account of a buyer.
func buyerAccount(buyer string) string { return buyerPrefix + buyer }

// ownerAccount returns the account of an owner.
func ownerAccount(owner string) string { return ownerPrefix + owner }

// register registers a buyer in the sale and opens the buyer's account.
type register struct {
	name   string
	credit int
}

func (r register) run(h *House) (string, api.Errno) {
	if err := h.sale.Buyer(r.name, r.credit); err != api.OK {
		return "", err
	}
	return done, h.ledger.Open(buyerAccount(r.name))
}

// transfer posts cents to one account, and takes them off another one.
type transfer struct {
	to, from string
	cents    int
}

func (t transfer) run(h *House) (string, api.Errno) {
	if t.cents < 1 {
		return "", api.ErrArg
	}
	// What Post finds first may be another error.
	for _, account := range []string{t.to, t.from} {
		if _, err := h.ledger.Balance(account, h.day); err != api.OK {
			return "", err
		}
	}
	_, err := h.ledger.Post(h.day, []api.Posting{{Account: t.to, Cents: t.cents}, {Account: t.from, Cents: -t.cents}})
	return done, err
}

// job does something in the sale.
type job api.Job

func (j job) run(h *House) (string, api.Errno) {
	result := h.sale.Do(api.Job(j))
	e := result.Entry
	switch {
	case result.Err != api.OK:
		return "", result.Err
	case j.What == api.JobStart:
		return e.Lot, api.OK
	case j.What != api.JobKnock && j.What != api.JobAccept:
		return done, api.OK
	case !isSold(e):
		return "passed " + e.Lot, api.OK
	}
	return "sold " + e.Lot + " " + e.Buyer + " " + strconv.Itoa(e.Price), h.settle(e)
}

// settle posts what a sold entry brings: what the buyer owes, what each owner
// is owed, and what is kept.
func (h *House) settle(e api.Entry) api.Errno {
	lot, err := h.view().Lot(e.Lot)
	if err != api.OK {
		return err
	}
	owners, grams := h.owners(lot)
	value := e.Price * e.Kilos
	shares, err := num.Apportion(value, grams)
	if err != api.OK {
		return err
	}
	postings := []api.Posting{{Account: buyerAccount(e.Buyer), Cents: value}}
	kept := 0
	for i, owner := range owners {
		charge, err := accounts.Charge(shares[i], h.scale)
		if err != api.OK {
			return err
		}
		kept += charge
		postings = append(postings, api.Posting{Account: ownerAccount(owner), Cents: charge - shares[i]})
	}
	postings = append(postings, api.Posting{Account: feeAccount, Cents: -kept})
	return h.post(slices.DeleteFunc(postings, func(p api.Posting) bool { return p.Cents == 0 }))
}

// post makes an entry on the current day, for which it opens the accounts that
// are not there yet. (As the value of a lot is at least 1, the buyer's posting
// is never the only one.)
func (h *House) post(postings []api.Posting) api.Errno {
	for _, p := range postings {
		if err := h.ledger.Open(p.Account); err != api.OK && err != api.ErrExists {
			return err
		}
	}
	_, err := h.ledger.Post(h.day, postings)
	return err
}
