package system

import (
	"slices"
	"testing"

	"chapbook/api"
)

// steps are what the orders below are made of.
func steps() []func(x *pair) api.Act {
	always := func(a api.Act) func(*pair) api.Act { return func(*pair) api.Act { return a } }
	return []func(x *pair) api.Act{
		always(changes(1, app("t", "x"))),
		always(at(push, 1)),
		always(at(tick, 1)),
		always(at(tick, 0)),
		always(on(deliver, 0)),
		func(x *pair) api.Act { return on(deliver, len(x.p.flight)-1) }, // the last one
		always(on(twice, 0)),
		always(spoils(0, 40, 1)),
		always(at(pull, 1)),
		always(at(reset, 1)),
		always(at(tick, 2)),
	}
}

// power is n to the power of m.
func power(n, m int) int {
	p := 1
	for range m {
		p *= n
	}
	return p
}

// orders does each order of so many steps, from a beginning on, and looks at all that stands behind each.
func orders(t *testing.T, length int, begin func() *pair) {
	t.Helper()
	all := steps()
	for order := range power(len(all), length) {
		x := begin()
		for range length {
			x.do(t, all[order%len(all)](x))
			order /= len(all)
		}
		x.unchanged(t, "an order")
	}
}

// TestAllOrders is P20.2 to P20.5: each order of up to five steps, good and bad, from the beginning on, and of up to three from further on.
func TestAllOrders(t *testing.T) {
	small := api.Config{Clients: 2, Window: 1, Push: 1, Pull: 1, MTU: 64, Last: 2}
	for length := range 6 {
		orders(t, length, func() *pair { return newPair(t, small) })
	}
	for length := range 4 {
		orders(t, length, func() *pair { // a round is common, and another one open
			x := newPair(t, small)
			for _, a := range []api.Act{changes(1, set("k", 5)), at(push, 1), at(tick, 1), at(tick, 2), on(deliver, 0), changes(1, add("k", 1)), at(tick, 0)} {
				x.do(t, a)
			}
			return x
		})
	}
}

// chance gives numbers that look like chance, the same ones each time.
type chance uint64

func (c *chance) below(n int) int {
	*c = *c*6364136223846793005 + 1442695040888963407
	return int(uint64(*c) >> 33 % uint64(n))
}

// road is how often, of a hundred acts, what befalls.
type road struct {
	lost, doubled, spoilt, resets, wrong int
	late                                 bool // packets come in any order
}

// act is any one: of a node, or of a packet.
func (r road) act(c *chance, x *pair) api.Act {
	client, packets := c.below(x.c.Clients)+1, len(x.p.flight)
	n := c.below(100)
	for _, f := range []struct {
		often int
		a     func() api.Act
	}{
		{r.wrong, func() api.Act { return wrong(c, x) }},
		{r.resets, func() api.Act { return at(reset, client) }},
		{r.lost, func() api.Act { return on(drop, c.below(packets+1)) }},
		{r.doubled, func() api.Act { return on(twice, c.below(packets+1)) }},
		{r.spoilt, func() api.Act { return spoils(c.below(packets+1), c.below(600)-40, uint32(c.below(1<<31))) }},
		{10, func() api.Act { return changes(client, someUpdate(c)) }},
		{4, func() api.Act { return reads(client, []string{"a", "s", "t", "none"}[c.below(4)]) }},
		{8, func() api.Act { return at(push, client) }},
		{12, func() api.Act { return at(pull, client) }},
		{2, func() api.Act { return at(confirm, client) }},
		{8, func() api.Act { return at(tick, client) }},
		{4, func() api.Act { return at(tick, 0) }},
	} {
		if n -= f.often; n < 0 {
			return f.a()
		}
	}
	if r.late {
		return on(deliver, c.below(packets+1))
	}
	return on(deliver, 0)
}

// someUpdate is one that may be, mostly.
func someUpdate(c *chance) api.Update {
	l := []api.Update{set("s", 3), put("t", "t"), add("a", 1), app("t", "x"), del("s"), add("a", 1<<61-1), app("t", "123"), {}, {Key: "k", Kind: 6}, app("k", "123456789012345678901234567890123")}
	return l[c.below(len(l))]
}

// wrong is an act of no kind, no client or no packet, or one with too much in it.
func wrong(c *chance, x *pair) api.Act {
	a := api.Act{Kind: c.below(14) - 1, Node: c.below(x.c.Clients+3) - 1, Update: someUpdate(c), Key: "a", N: c.below(len(x.p.flight)+5) - 2, Bit: c.below(99) - 50, Mask: uint32(c.below(1 << 31))}
	if c.below(4) == 0 {
		a.Kind, a.Node = far()[c.below(len(far()))], far()[c.below(len(far()))]
	}
	return a
}

func roads() []road {
	return []road{
		{},
		{late: true},
		{lost: 10},
		{doubled: 6, late: true},
		{spoilt: 15},
		{resets: 2, late: true},
		{wrong: 20, late: true},
		{lost: 6, doubled: 4, spoilt: 6, resets: 1, wrong: 4, late: true},
		{lost: 4, doubled: 10, spoilt: 1, resets: 8, wrong: 1, late: true},
	}
}

// TestLongOrders is P20.2 to P20.5: over long orders of all the acts, good and bad, all that a system tells is looked at behind each; in the end all settles.
func TestLongOrders(t *testing.T) {
	all := 0
	for i, r := range roads() {
		for seed := range 6 {
			c := chance(100*i + seed)
			config := api.Config{Clients: seed%4 + 1, Window: c.below(16) + 1, Push: c.below(16) + 1, Pull: c.below(16) + 1, MTU: []int{64, 80, 200, 1400}[c.below(4)], Last: []int{maxLast, 12, 40}[seed%3]}
			x := begun(t, config)
			for range 400 {
				x.do(t, r.act(&c, x))
				x.holds(t, "a long order")
			}
			x.unchanged(t, "a long order")
			x.settles(t)
			x.unchanged(t, "settled")
			all += len(x.log)
		}
	}
	if all < 600 {
		t.Fatalf("%d rounds: too little to tell anything", all)
	}
}

// TestFarBehind is P20.4: packets that were doubled long ago come at the end, of each epoch.
func TestFarBehind(t *testing.T) {
	for seed := range 6 {
		c := chance(seed)
		x := begun(t, api.Config{Clients: 2, Window: seed + 1, Push: 4, Pull: 3, MTU: 64, Last: maxLast})
		var old []api.Packet
		for turn := range 30 {
			x.pushes(t, 1, min(1, x.c.Push-x.s.Look(1).Pending))
			if turn%7 == 6 {
				x.done(t, at(reset, c.below(2)+1))
			}
			x.do(t, at(tick, turn%3))
			old = append(old, x.s.Flight()...)
			x.arrive(t)
			x.do(t, at(pull, turn%2+1))
		}
		for range len(old) {
			x.carry(old[c.below(len(old))])
			x.do(t, on(deliver, len(x.p.flight)-1))
			x.holds(t, "an old packet")
		}
		if len(x.log) < 5 {
			t.Fatalf("%d rounds: too little to tell anything", len(x.log))
		}
		x.settles(t)
	}
}

// TestAlike: two systems of one configuration that are told the same acts answer the same, and one beside them that is told others shows nothing of it.
func TestAlike(t *testing.T) {
	for i, r := range roads() {
		c := chance(i)
		config := api.Config{Clients: 3, Window: i + 1, Push: 4, Pull: 16 - i, MTU: 64, Last: 100}
		x, alike, other := begun(t, config), made(t, config), begun(t, config)
		for range 300 {
			a := r.act(&c, x)
			if one, two := x.do(t, a), alike.Do(a); one != two {
				t.Fatalf("%+v: %+v, and %+v", a, one, two)
			}
			other.do(t, r.act(&c, other))
			if !slices.Equal(x.s.Flight(), alike.Flight()) {
				t.Fatalf("%+v: %+v, and %+v", a, x.s.Flight(), alike.Flight())
			}
			tells(t, "Log", alike.Log(), x.s.Log())
			for client := range 5 {
				tells(t, "Known", alike.Known(client), x.s.Known(client))
				tells(t, "Journal", alike.Journal(client), x.s.Journal(client))
				if x.s.Look(client) != alike.Look(client) || x.s.Unacked(client) != alike.Unacked(client) {
					t.Fatalf("client %d: %+v, and %+v", client, x.s.Look(client), alike.Look(client))
				}
			}
			x.holds(t, "the one")
			other.holds(t, "the other one")
		}
	}
}
