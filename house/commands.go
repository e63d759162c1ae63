package house

import (
	"strconv"
	"strings"

	"merino/api"
)

// mostBales is how many bales a command can name.
const mostBales = 16

// done is the answer of a command that has nothing else to tell.
const done = "ok"

// command is what a line asks for.
type command interface {
	// run carries it out on a house and returns its answer. With an error, a
	// house that it changes may be half changed.
	run(h *House) (string, api.Errno)
}

// order is a command, and the line of the book that it makes if it changes the
// house.
type order struct {
	command  command
	line     string
	isChange bool
}

// maker makes a command of its parameters.
type maker struct {
	build    func(p *params) command
	isChange bool
}

// orderOf returns the order that words make, or what is answered to them if
// they make none.
func orderOf(words []string) (order, string) {
	m, ok := makerOf(words[0])
	if !ok {
		return order{}, wrongLine
	}
	p := params{words: words[1:]}
	c := m.build(&p)
	if fault := p.fault(); fault != "" {
		return order{}, fault
	}
	return order{command: c, line: strings.Join(words, " "), isChange: m.isChange}, ""
}

// makerOf returns what makes the commands of a name.
func makerOf(name string) (maker, bool) {
	if build, ok := changes()[name]; ok {
		return maker{build, true}, true
	}
	build, ok := looks()[name]
	return maker{build, false}, ok
}

// changes returns, for the names of the commands that change the house, what
// makes them.
func changes() map[string]func(*params) command {
	return map[string]func(*params) command{
		"clip": func(p *params) command { return move{What: api.MoveClip, Name: p.word(), Owner: p.word()} },
		"receive": func(p *params) command {
			return move{What: api.MoveReceive, No: p.number(), Kind: p.kind(), Grams: p.number()}
		},
		"split":   massMove(api.MoveSplit),
		"merge":   func(p *params) command { return move{What: api.MoveMerge, Nos: p.numbers(2, mostBales)} },
		"core":    massMove(api.MoveCore),
		"weigh":   massMove(api.MoveWeigh),
		"hold":    baleMove(api.MoveHold),
		"release": baleMove(api.MoveRelease),
		"waste":   baleMove(api.MoveWaste),
		"lot":     func(p *params) command { return move{What: api.MoveLot, Name: p.word(), Nos: p.numbers(1, mostBales)} },
		"unlot":   func(p *params) command { return unlot{p.word()} },
		"send":    func(p *params) command { return send{p.word()} },
		"day":     func(p *params) command { return setDay{p.number()} },
		"buyer":   func(p *params) command { return register{name: p.word(), credit: p.number()} },
		"enter": func(p *params) command {
			return enter{Lot: p.word(), Room: p.number(), Open: p.number(), Reserve: p.number()}
		},
		"bid": func(p *params) command {
			return job{What: api.JobBid, Buyer: p.word(), Lot: p.word(), Price: p.number()}
		},
		"start":    func(p *params) command { return job{What: api.JobStart, Room: p.number()} },
		"knock":    func(p *params) command { return job{What: api.JobKnock, Room: p.number()} },
		"withdraw": func(p *params) command { return job{What: api.JobWithdraw, Lot: p.word()} },
		"lower":    func(p *params) command { return job{What: api.JobLower, Lot: p.word(), Price: p.number()} },
		"accept":   func(p *params) command { return job{What: api.JobAccept, Buyer: p.word(), Lot: p.word()} },
		"decline":  func(p *params) command { return job{What: api.JobDecline, Buyer: p.word(), Lot: p.word()} },
		"pay": func(p *params) command {
			return transfer{to: bankAccount, from: buyerAccount(p.word()), cents: p.number()}
		},
		"draw": func(p *params) command {
			return transfer{to: ownerAccount(p.word()), from: bankAccount, cents: p.number()}
		},
	}
}

// looks returns, for the names of the other commands, what makes them.
func looks() map[string]func(*params) command {
	return map[string]func(*params) command{
		"show":     func(p *params) command { return show{p.number()} },
		"lots":     func(*params) command { return lots{} },
		"standing": func(p *params) command { return standing{p.word()} },
		"turn":     func(p *params) command { return turn{p.word()} },
		"free":     func(p *params) command { return free{p.word()} },
		"balance":  func(p *params) command { return balance{p.word()} },
		"dumps":    func(p *params) command { return dumps{lot: p.word(), grams: p.number()} },
		"audit":    func(*params) command { return audit{} },
		"if":       func(p *params) command { return whatIf{p.rest()} },
	}
}

// massMove returns what makes the moves of a bale and grams.
func massMove(what int) func(*params) command {
	return func(p *params) command { return move{What: what, No: p.number(), Grams: p.number()} }
}

// baleMove returns what makes the moves of a bale alone.
func baleMove(what int) func(*params) command {
	return func(p *params) command { return move{What: what, No: p.number()} }
}

// move changes the store.
type move api.Move

func (m move) run(h *House) (string, api.Errno) {
	no, err := h.store.Do(api.Move(m))
	switch m.What {
	case api.MoveClip:
		return "clip " + strconv.Itoa(no), err
	case api.MoveReceive, api.MoveSplit, api.MoveMerge:
		return "bale " + strconv.Itoa(no), err
	}
	return done, err
}

// setDay sets the current day.
type setDay struct{ day int }

func (s setDay) run(h *House) (string, api.Errno) {
	if s.day < 0 || s.day > api.MaxDay {
		return "", api.ErrArg
	}
	if s.day < h.day {
		return "", api.ErrState
	}
	h.day = s.day
	return done, api.OK
}

// whatIf carries out other words on a copy of the house.
type whatIf struct{ words []string }

func (w whatIf) run(h *House) (string, api.Errno) {
	return h.Copy().answer(w.words), api.OK
}
