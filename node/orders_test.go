package node

import (
	"testing"

	"chapbook/api"
)

// steps are what the orders below are made of.
func steps() []func(t *testing.T, x *pair) {
	return []func(t *testing.T, x *pair){
		func(t *testing.T, x *pair) { x.update(t, app("t", "o")) },
		func(t *testing.T, x *pair) { x.push(t) },
		func(t *testing.T, x *pair) { x.tick(t) },
		func(t *testing.T, x *pair) { x.hear(t, api.Frame{Epoch: x.p.epoch, Ack: x.p.acked + 1}) },
		func(t *testing.T, x *pair) { x.next(t, x.own()) },
		func(t *testing.T, x *pair) { x.next(t, ordinary(1, 1)) },
		func(t *testing.T, x *pair) { x.pull(t) },
		func(t *testing.T, x *pair) { x.reset(t) },
		func(t *testing.T, x *pair) { x.hear(t, api.Frame{Epoch: 2, Seq: 1, Data: bytesOf(ordinary(2, 1))}) }, // its epoch may be elder, the same or later
		func(t *testing.T, x *pair) { // it comes early
			x.hear(t, api.Frame{Epoch: x.p.epoch, Seq: x.p.taken + 2, Ack: x.p.acked, Data: bytesOf(x.own())})
		},
	}
}

// next: a round is the next piece, taken or not, with the acknowledgement that came already.
func (x *pair) next(t *testing.T, r api.Round) {
	t.Helper()
	x.hear(t, api.Frame{Epoch: x.p.epoch, Seq: x.p.taken + 1, Ack: x.p.acked, Data: bytesOf(r)})
}

// own is its first pending round that doesn't wait yet; or, with none, the one that would be next.
func (x *pair) own() api.Round {
	waits := map[string]bool{}
	for _, data := range x.p.waiting {
		waits[data] = true
	}
	for _, r := range x.p.pending {
		if !waits[bytesOf(r)] {
			return r
		}
	}
	return of(x.p.origin, len(x.p.journal)+1, app("t", "x"))
}

// power is n to the power of m.
func power(n, m int) int {
	p := 1
	for range m {
		p *= n
	}
	return p
}

// TestAllOrders holds nodes against plain ones, behind each order of up to five steps, good and bad, from the beginning on, and of up to four from further on; a Tick and a Pull end each.
func TestAllOrders(t *testing.T) {
	all := steps()
	for i, c := range []api.Config{
		{Clients: 2, Window: 1, Push: 2, Pull: 1, MTU: 64, Last: 2},
		{Clients: 2, Window: 2, Push: 1, Pull: 2, MTU: 1400, Last: 3},
	} {
		for length := range 6 - i { // the second ones are further on already
			for order := range power(len(all), length) {
				x := &pair{made(t, c, 2), made(t, c, 2), newPlain(c, 2)}
				if i == 1 { // with a round on its way
					x.update(t, add("a", 1))
					x.push(t)
					x.tick(t)
				}
				for range length {
					all[order%len(all)](t, x)
					order /= len(all)
				}
				x.tick(t)
				x.pull(t)
				x.unchanged(t, "an order")
			}
		}
	}
}

// chance gives numbers that look like chance, the same ones each time.
type chance uint64

func (c *chance) below(n int) int {
	*c = *c*6364136223846793005 + 1442695040888963407
	return int(uint64(*c) >> 33 % uint64(n))
}

// strange is a frame with numbers about those that the node has now, and with data of any kind.
func (x *pair) strange(c *chance) api.Frame {
	f := api.Frame{Epoch: x.p.epoch, Seq: max(x.p.taken+c.below(4)-1, 0), Ack: max(x.p.acked+c.below(5)-1, 0)}
	switch c.below(10) {
	case 0:
		f.Epoch++
	case 1:
		f.Epoch = max(f.Epoch-1, 1)
	}
	if f.Seq == 0 {
		return f
	}
	switch c.below(8) {
	case 0:
		f.Data = noRounds()[c.below(len(noRounds()))]
	case 1:
		f.Data = bytesOf(ordinary(x.p.origin, c.below(len(x.p.journal)+2)+1))
	case 2:
		f.Data = bytesOf(ordinary(c.below(64)+1, c.below(9)+1))
	default:
		f.Data = bytesOf(x.own())
	}
	return f
}

// someUpdate is one that may be, and fits or not, or one that may not be.
func someUpdate(c *chance) api.Update {
	l := []api.Update{set("s", 3), put("t", "t"), add("a", 1), app("t", "x"), del("s"), add("a", 1<<61-1), app("u", "1234567890"), put("u", "12345678901234567890123456789012"),
		{}, {Key: "k", Kind: 6}, add("", 1), add("a", 1<<61), put("12345678901234567", ""), app("k", "123456789012345678901234567890123")}
	return l[c.below(len(l))]
}

// TestLongOrders holds nodes against plain ones, over long orders of all the calls, good and bad, and looks at all that stands behind each.
func TestLongOrders(t *testing.T) {
	for seed := range 48 {
		c := chance(seed)
		config := api.Config{Clients: 3, Window: seed%16 + 1, Push: c.below(16) + 1, Pull: c.below(16) + 1, MTU: []int{64, 80, 200, 1400}[seed%4], Last: 5 + c.below(60)}
		x := begun(t, config, seed%3+1)
		for range 300 {
			switch c.below(12) {
			case 0, 1:
				x.update(t, someUpdate(&c))
			case 2, 3:
				x.push(t)
			case 4:
				x.tick(t)
			case 5:
				x.hear(t, api.Frame{Epoch: x.p.epoch, Ack: x.p.acked + c.below(4)})
			case 6, 7:
				x.next(t, x.own())
			case 8:
				x.hear(t, x.strange(&c))
			case 9:
				x.next(t, ordinary(c.below(64)+1, c.below(50)+1))
			case 10:
				x.pull(t)
			case 11:
				if c.below(8) == 0 {
					x.reset(t)
				}
			}
			x.holds(t, "a long order")
		}
		x.unchanged(t, "a long order")
	}
}

// TestManyRounds is P18.1 to P18.5: more rounds, and more pieces, than a byte or two can count.
func TestManyRounds(t *testing.T) {
	const many = 1<<16 + 300
	c := usual()
	c.Push, c.Last, c.Window = 2, maxLast, 16
	n := made(t, c, 1)
	for i := 1; i <= many; i++ {
		n.Update(add("a", 1))
		if k, e := n.Push(); k != i || e != api.OK {
			t.Fatalf("the round %d: %d %d", i, k, e)
		}
		own := of(1, i, add("a", 1))
		if l := n.Tick(); len(l) != 1 || l[0].Bytes != datagram(api.Frame{Epoch: 1, Seq: i, Ack: i - 1, Data: bytesOf(own)}) {
			t.Fatalf("the round %d: Tick %x", i, l)
		}
		if e := n.Hear(datagram(api.Frame{Epoch: 1, Seq: i, Ack: i, Data: bytesOf(own)})); e != api.OK || n.Pull() != 1 {
			t.Fatalf("the round %d didn't come: %d", i, e)
		}
	}
	if l := n.Look(); l != (api.Look{Epoch: 1, Known: many}) || !n.Confirmed() || n.Read("a") != (api.Value{Kind: api.VNumber, N: many}) {
		t.Fatalf("%+v", l)
	}
	if e := n.Reset(); e != api.OK || n.Look() != (api.Look{Epoch: 2, Pending: many}) || len(n.Journal()) != many {
		t.Fatalf("Reset: %d %+v", e, n.Look())
	}
	for at := 0; at < many; at += 16 {
		l := n.Tick()
		if len(l) != min(16, many-at) || l[0].Bytes != datagram(api.Frame{Epoch: 2, Seq: at + 1, Data: bytesOf(of(1, at+1, add("a", 1)))}) {
			t.Fatalf("behind Reset, at %d: %d packets, %x", at, len(l), l[0].Bytes)
		}
		n.Hear(datagram(api.Frame{Epoch: 2, Ack: at + len(l)}))
	}
	if n.Look().Unacked != 0 || n.Tick()[0].Bytes != datagram(api.Frame{Epoch: 2}) {
		t.Fatalf("behind all: %+v", n.Look())
	}
}
