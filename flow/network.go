package flow

import (
	"math/bits"

	"merino/api"
)

// edge is a residual arc: it has left units of room, at cost for each.
type edge struct{ from, to, left, cost int }

// network is nodes and arcs with amounts. Arc i is two edges: edge 2i adds to
// its amount, and edge 2i+1 takes from it, so that its room is the amount.
type network struct {
	edges   []edge
	leaving [][]int // the edges that leave each node
	price   []int   // a potential for each node
}

// newNetwork returns a network of so many nodes without arcs.
func newNetwork(nodes int) *network {
	return &network{leaving: make([][]int, nodes), price: make([]int, nodes)}
}

// carrying returns a network of these arcs with these amounts.
func carrying(n int, arcs []api.Arc, amounts []int) *network {
	w := newNetwork(n)
	for i, arc := range arcs {
		w.add(arc, amounts[i])
	}
	return w
}

// supplied returns a network of these arcs without amounts, and of two nodes
// more: arcs from the source n supply the nodes that need to send, arcs to the
// sink n+1 relieve those that need to be sent to, and the last arc leads from
// the sink back to the source, with a reward for each unit that it carries.
func supplied(n int, arcs []api.Arc, need []int, reward int) *network {
	w := newNetwork(n + 2)
	for _, arc := range arcs {
		w.add(arc, 0)
	}
	source, sink := n, n+1
	sent := 0
	for node, amount := range need {
		switch {
		case amount > 0:
			w.add(api.Arc{From: source, To: node, Cap: amount}, 0)
			sent += amount
		case amount < 0:
			w.add(api.Arc{From: node, To: sink, Cap: -amount}, 0)
		}
	}
	w.add(api.Arc{From: sink, To: source, Cap: sent, Cost: -reward}, 0)
	return w
}

// add adds an arc that carries an amount.
func (w *network) add(arc api.Arc, amount int) {
	at := len(w.edges)
	w.edges = append(w.edges,
		edge{arc.From, arc.To, arc.Cap - amount, arc.Cost},
		edge{arc.To, arc.From, amount, -arc.Cost})
	w.leaving[arc.From] = append(w.leaving[arc.From], at)
	w.leaving[arc.To] = append(w.leaving[arc.To], at+1)
}

// last is the arc that was added last.
func (w *network) last() int { return len(w.edges)/2 - 1 }

// isFull reports whether an arc carries as much as it can.
func (w *network) isFull(arc int) bool { return w.edges[2*arc].left == 0 }

// circulate gives a network without amounts those with which each node is left
// by as much as enters it, at the least cost. The caps are read bit by bit:
// what is cheapest for half of the caps is, doubled, cheapest for the doubled
// halves, and an arc whose next bit is set is then widened by a unit.
func (w *network) circulate() {
	caps := make([]int, len(w.edges)/2)
	all := 0
	for arc := range caps {
		caps[arc] = w.edges[2*arc].left
		w.edges[2*arc].left = 0
		all |= caps[arc]
	}
	for bit := bits.Len(uint(all)) - 1; bit >= 0; bit-- {
		for i := range w.edges {
			w.edges[i].left *= 2
		}
		for arc, most := range caps {
			if most>>bit&1 == 1 {
				w.widen(2 * arc)
			}
		}
	}
}

// widen gives an edge room for a unit more, in a cheapest circulation with
// prices that no edge with room undercuts, and keeps it so. As the prices of
// other edges hold, only a closed walk over this edge can cost less than 0; if
// one does, the unit is sent round the cheapest of them.
func (w *network) widen(i int) {
	e := &w.edges[i]
	if e.left > 0 || w.price[e.from]+e.cost >= w.price[e.to] {
		e.left++
		return
	}
	before := w.price[e.from]
	w.price[e.to] = before + e.cost
	w.lower()
	if w.price[e.from] == before {
		e.left++
		return
	}
	w.send(w.path(e.to, e.from, 1), 1)
	w.edges[i^1].left++
}

// lower lowers prices until no edge with room leads to a node for less than
// its price. It reports false if there is no end to that, as a closed walk
// costs less than 0; otherwise a cheapest walk has fewer edges than there are
// nodes, and the last round changes nothing.
func (w *network) lower() bool {
	for range w.price {
		isLower := false
		for _, e := range w.edges {
			if e.left > 0 && w.price[e.from]+e.cost < w.price[e.to] {
				w.price[e.to] = w.price[e.from] + e.cost
				isLower = true
			}
		}
		if !isLower {
			return true
		}
	}
	return false
}

// isOpen reports whether an edge has so much room and leads to its node for
// exactly the node's price. Amounts that are changed along such edges cost the
// same, and prices that no edge undercut are still not undercut.
func (w *network) isOpen(e edge, room int) bool {
	return e.left >= room && w.price[e.from]+e.cost == w.price[e.to]
}

// path returns open edges that lead from a node to another one, each with so
// much room; none if there is no such path. It goes on from each node that it
// finds as long as it can, and where it cannot, it steps back.
func (w *network) path(from, to, room int) []int {
	var path []int
	isFound := make([]bool, len(w.price))
	isFound[from] = true
	at := from
search:
	for at != to {
		for _, i := range w.leaving[at] {
			if e := w.edges[i]; !isFound[e.to] && w.isOpen(e, room) {
				path = append(path, i)
				isFound[e.to] = true
				at = e.to
				continue search
			}
		}
		if len(path) == 0 {
			return nil
		}
		at = w.edges[path[len(path)-1]].from
		path = path[:len(path)-1]
	}
	return path
}

// send sends an amount along a path.
func (w *network) send(path []int, amount int) {
	for _, i := range path {
		w.edges[i].left -= amount
		w.edges[i^1].left += amount
	}
}

// greatest makes the amounts of the first n arcs the lexicographically
// greatest that cost as little as the present ones, and returns them. It
// leaves these arcs without room.
func (w *network) greatest(n int) []int {
	amounts := make([]int, n)
	for arc := range amounts {
		amounts[arc] = w.fix(arc)
	}
	return amounts
}

// fix makes the amount of an arc as great as it can be at the present cost,
// and returns it. From then on the arc has no room, so that it stays as it is.
// What is sent at once is halved in turn, so that even the widest arcs are
// filled in few steps.
func (w *network) fix(arc int) int {
	e, back := w.edges[2*arc], w.edges[2*arc+1]
	w.edges[2*arc].left, w.edges[2*arc+1].left = 0, 0
	if !w.isOpen(e, 1) {
		return back.left
	}
	for bit := bits.Len(uint(e.left)) - 1; bit >= 0; bit-- {
		unit := 1 << bit
		for e.left >= unit {
			path := w.path(e.to, e.from, unit)
			if path == nil {
				break
			}
			w.send(path, unit)
			e.left -= unit
			back.left += unit
		}
	}
	return back.left
}
