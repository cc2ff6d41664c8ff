package node

import (
	"slices"
	"testing"

	"chapbook/api"
	"chapbook/frame"
	"chapbook/sequencer"
)

// road is a sequencer, its nodes, and the packets that are on their way.
type road struct {
	c      api.Config
	s      *sequencer.Sequencer
	nodes  []*Node
	flight []api.Packet
}

func newRoad(t *testing.T, c api.Config) *road {
	t.Helper()
	s, e := sequencer.New(c)
	if e != api.OK {
		t.Fatalf("the test's own fault: no sequencer: %d", e)
	}
	r := &road{c: c, s: s}
	for i := range c.Clients {
		r.nodes = append(r.nodes, made(t, c, i+1))
	}
	return r
}

// pushes: a node's next ordinary round, if it may.
func (r *road) pushes(origin int) {
	n := r.nodes[origin-1]
	if n.Look().Open == 0 {
		for _, u := range list(origin, len(n.Journal())+1) {
			n.Update(u)
		}
	}
	n.Push()
}

// tick: the packets of a node, or of the sequencer, go on their way.
func (r *road) tick(t *testing.T, node int) {
	t.Helper()
	if node == 0 {
		r.flight = append(r.flight, r.s.Tick()...)
		return
	}
	n := r.nodes[node-1]
	l := n.Tick()
	for _, p := range l {
		if f, e := frame.Get(p.Bytes); e != api.OK || p.From != node || p.To != 0 || len(p.Bytes) > r.c.MTU || f.Epoch != n.Look().Epoch {
			t.Fatalf("from %d to %d: %+v %d", p.From, p.To, f, e)
		}
	}
	if len(l) < 1 || len(l) > r.c.Window || !slices.Equal(l, n.Tick()) {
		t.Fatalf("%d packets of %d: %x, and then %x", len(l), node, l, n.Tick())
	}
	r.flight = append(r.flight, l...)
}

// deliver: a packet comes.
func (r *road) deliver(t *testing.T, p api.Packet) {
	t.Helper()
	var e api.Errno
	if p.To == 0 {
		e = r.s.Hear(p.From, p.Bytes)
	} else {
		e = r.come(t, p)
	}
	if _, bad := frame.Get(p.Bytes); bad != api.OK && e != bad || bad == api.OK && e != api.OK && e != api.ErrStale {
		t.Fatalf("%+v: %d", p, e)
	}
}

// come: a packet comes to a node; what is refused changes nothing.
func (r *road) come(t *testing.T, p api.Packet) api.Errno {
	t.Helper()
	n := r.nodes[p.To-1]
	before := n.Look()
	e := n.Hear(p.Bytes)
	if e != api.OK && n.Look() != before {
		t.Fatalf("%+v: %d, and %+v, not %+v", p, e, n.Look(), before)
	}
	return e
}

// pull: what came to a node is known, behind what was; nothing waits.
func (r *road) pull(t *testing.T, origin int) {
	t.Helper()
	n := r.nodes[origin-1]
	known, came := n.Known(), n.Look().Came
	if many := n.Pull(); many != came || n.Look().Came != 0 || n.Look().Known != len(known)+many { // the sequencer sends nothing but rounds that are next
		t.Fatalf("node %d: Pull %d of %d, behind %d: %+v", origin, many, came, len(known), n.Look())
	}
}

// take is a packet out of those on their way, one time in three a copy of it.
func (r *road) take(c *chance) api.Packet {
	i := c.below(len(r.flight))
	p := r.flight[i]
	if c.below(3) > 0 {
		r.flight = slices.Delete(r.flight, i, i+1)
	}
	return p
}

// step does something with one of the nodes, or with a packet that is on its way.
func (r *road) step(t *testing.T, c *chance) {
	t.Helper()
	origin := c.below(r.c.Clients) + 1
	switch n := c.below(44); {
	case n < 6:
		r.pushes(origin)
	case n < 12:
		r.tick(t, origin)
	case n < 16:
		r.tick(t, 0)
	case n < 23:
		r.pull(t, origin)
	case len(r.flight) == 0:
	case n < 40:
		r.deliver(t, r.take(c))
	case n < 43:
		r.take(c) // it is lost
	default:
		p := r.take(c)
		b := []byte(p.Bytes)
		b[c.below(len(b))] ^= 1 << c.below(8)
		r.deliver(t, api.Packet{From: p.From, To: p.To, Bytes: string(b)})
	}
}

// holds looks whether the common order has of each node a beginning of its journal, and each node knows a beginning of it, with its own rounds that aren't known pending.
func (r *road) holds(t *testing.T) {
	t.Helper()
	log := r.s.Log()
	for i, n := range r.nodes {
		journal := n.Journal()
		common := originated(log, i+1)
		if len(common) > len(journal) {
			t.Fatalf("node %d: %d rounds are common of %d", i+1, len(common), len(journal))
		}
		tells(t, "of the common order", common, journal[:len(common)])
		known := n.Known()
		if len(known) > len(log) {
			t.Fatalf("node %d knows %d of %d", i+1, len(known), len(log))
		}
		tells(t, "Known", known, log[:len(known)])
		if l := n.Look(); l.Pending != len(journal)-len(originated(known, i+1)) || l.Known != len(known) || l.Came > r.c.Pull || l.Unacked > r.c.Window {
			t.Fatalf("node %d: %+v", i+1, l)
		}
	}
}

// originated is those of an origin.
func originated(l []api.Round, origin int) []api.Round {
	return slices.DeleteFunc(slices.Clone(l), func(r api.Round) bool { return r.Origin != origin })
}

// turn: all send all, nothing is lost, and all is pulled.
func (r *road) turn(t *testing.T) {
	t.Helper()
	for i := range r.nodes {
		r.pull(t, i+1)
		r.tick(t, i+1)
	}
	r.tick(t, 0)
	for _, p := range r.flight {
		r.deliver(t, p)
	}
	r.flight = nil
}

// settles looks whether, once nothing more is lost, all that was pushed comes to be common and known by all, and is read alike.
func (r *road) settles(t *testing.T) {
	t.Helper()
	many := 0
	for _, n := range r.nodes {
		many += len(n.Journal())
	}
	for range 2*many + 4 {
		r.turn(t)
	}
	for i := range r.nodes {
		r.pull(t, i+1)
	}
	r.holds(t)
	log := r.s.Log()
	for i, n := range r.nodes {
		tells(t, "Known, at the end", n.Known(), log)
		tells(t, "Journal, at the end", n.Journal(), originated(log, i+1))
		l := n.Look()
		if l != (api.Look{Epoch: l.Epoch, Known: many, Open: l.Open}) || n.Confirmed() != (l.Open == 0) {
			t.Fatalf("node %d: %+v", i+1, l)
		}
		for _, key := range keys() {
			if l.Open == 0 && r.nodes[0].Look().Open == 0 && n.Read(key) != r.nodes[0].Read(key) {
				t.Fatalf("node %d: %q is %+v, not %+v", i+1, key, n.Read(key), r.nodes[0].Read(key))
			}
		}
	}
}

// TestRoad is P18.1 to P18.5: over a road that loses, doubles, delays, shuffles and spoils packets, with no Reset and with many, all settle.
func TestRoad(t *testing.T) {
	c, all := chance(1), 0
	for _, resets := range []int{0, 10, 50} { // of a thousand steps
		for _, window := range []int{1, 2, 3, 8, 16} {
			for clients := 1; clients <= 4; clients++ {
				r := newRoad(t, api.Config{Clients: clients, Window: window, Push: (5*window)%16 + 1, Pull: 17 - window, MTU: 64, Last: maxLast})
				for range 500 {
					if c.below(1000) < resets {
						r.nodes[c.below(clients)].Reset()
					}
					r.step(t, &c)
					r.holds(t)
				}
				r.settles(t)
				for origin := 1; origin <= clients; origin++ { // and on, in the last epochs
					r.pushes(origin)
				}
				r.settles(t)
				all += len(r.s.Log())
			}
		}
	}
	if all < 1000 {
		t.Fatalf("%d rounds: too little to tell anything", all)
	}
}

// settlesWith: a node and a sequencer send each other all, for some rounds; one packet is treated (the first of what that tells comes at once, the others a round later), and a Reset comes at a place; then all settles.
func settlesWith(t *testing.T, c api.Config, resetAt, packet int, treat func(p api.Packet) []api.Packet) {
	t.Helper()
	r := newRoad(t, c)
	n, place, packets := r.nodes[0], 0, 0
	var late []api.Packet
	at := func() { // a place where the Reset may come
		if place == resetAt {
			n.Reset()
		}
		place++
	}
	for range 6 {
		r.pushes(1)
		at()
		r.tick(t, 1)
		at()
		r.tick(t, 0)
		at()
		now := append(r.flight, late...)
		r.flight, late = nil, nil
		for _, p := range now {
			if packets++; packets == packet {
				l := treat(p)
				late = append(late, l[min(1, len(l)):]...)
				for _, p := range l[:min(1, len(l))] {
					r.deliver(t, p)
				}
				continue
			}
			r.deliver(t, p)
			at()
		}
		r.pull(t, 1)
		at()
		r.holds(t)
	}
	r.flight = late
	r.settles(t)
	if len(n.Journal()) < 2 || resetAt < place && resetAt >= 0 != (n.Look().Epoch == 2) {
		t.Fatalf("%d rounds, the epoch %d, a Reset at %d of %d", len(n.Journal()), n.Look().Epoch, resetAt, place)
	}
}

// TestOneNode is P18.1 to P18.5: a node and a sequencer settle, with any one packet lost, doubled, late, or doubled and late, and with a Reset at any place.
func TestOneNode(t *testing.T) {
	none := api.Packet{From: 1, To: 0} // it is refused
	ways := []func(p api.Packet) []api.Packet{
		func(p api.Packet) []api.Packet { return []api.Packet{p} },
		func(p api.Packet) []api.Packet { return nil },
		func(p api.Packet) []api.Packet { return []api.Packet{p, p, p} },
		func(p api.Packet) []api.Packet { return []api.Packet{none, p} },
		func(p api.Packet) []api.Packet { return []api.Packet{p, p} },
	}
	for _, c := range []api.Config{
		{Clients: 1, Window: 1, Push: 1, Pull: 1, MTU: 64, Last: 1000},
		{Clients: 1, Window: 2, Push: 3, Pull: 2, MTU: 64, Last: 1000},
		{Clients: 1, Window: 16, Push: 16, Pull: 16, MTU: 1400, Last: 6},
	} {
		for resetAt := -1; resetAt < 40; resetAt++ {
			for packet := range 16 {
				for _, treat := range ways {
					settlesWith(t, c, resetAt, packet, treat)
				}
			}
		}
	}
}

// TestAlike: two nodes that do and hear the same, over a road with all that may befall it, send the same and stand alike.
func TestAlike(t *testing.T) {
	c := chance(7)
	for seed := range 10 {
		config := api.Config{Clients: 2, Window: seed + 1, Push: 4, Pull: 16 - seed, MTU: 64, Last: maxLast}
		r := newRoad(t, config)
		x := &pair{n: r.nodes[0], twin: made(t, config, 1)}
		for range 300 {
			var heard []api.Packet
			switch c.below(6) {
			case 0:
				u := someUpdate(&c)
				if a, b := x.n.Update(u), x.twin.Update(u); a != b {
					t.Fatalf("Update: %d and %d", a, b)
				}
			case 1:
				a, e := x.n.Push()
				if b, f := x.twin.Push(); a != b || e != f {
					t.Fatalf("Push: %d %d, and %d %d", a, e, b, f)
				}
			case 2:
				r.pushes(2)
				r.tick(t, 2)
				r.tick(t, 0)
			case 3:
				r.tick(t, 1)
			case 4:
				for range min(len(r.flight), 5) {
					heard = append(heard, r.take(&c))
				}
			case 5:
				if c.below(9) == 0 && x.n.Reset() != x.twin.Reset() {
					t.Fatalf("Reset: not the same")
				}
				if a, b := x.n.Pull(), x.twin.Pull(); a != b {
					t.Fatalf("Pull: %d and %d", a, b)
				}
			}
			for _, p := range heard {
				if p.To == 1 {
					x.twin.Hear(p.Bytes)
				}
				r.deliver(t, p)
			}
			if a, b := x.n.Tick(), x.twin.Tick(); !slices.Equal(a, b) || x.n.Look() != x.twin.Look() {
				t.Fatalf("%x %+v, and %x %+v", a, x.n.Look(), b, x.twin.Look())
			}
			tells(t, "Known", x.n.Known(), x.twin.Known())
			tells(t, "Journal", x.n.Journal(), x.twin.Journal())
		}
		if l := x.n.Look(); l.Known < 2 && l.Pending < 2 {
			t.Fatalf("%+v: too little to tell anything", l)
		}
	}
}
