package system

import (
	"math"
	"slices"
	"testing"
	"unsafe"

	"chapbook/api"
	"chapbook/frame"
)

// bound is of a configuration's number: the least and the greatest that it may be.
type bound struct {
	least, greatest int
	of              func(*api.Config) *int
}

func bounds() []bound {
	return []bound{
		{1, 64, func(c *api.Config) *int { return &c.Clients }},
		{1, 16, func(c *api.Config) *int { return &c.Window }},
		{1, 16, func(c *api.Config) *int { return &c.Push }},
		{1, 16, func(c *api.Config) *int { return &c.Pull }},
		{64, 1400, func(c *api.Config) *int { return &c.MTU }},
		{1, 1 << 40, func(c *api.Config) *int { return &c.Last }},
	}
}

// far are numbers that are far from all that may be, with such as would be near, if some of their bits were lost.
func far() []int {
	return []int{math.MaxInt, math.MaxInt - 1, 1<<62 + 1, 1<<32 + 1, 1<<32 + 2, 1 << 32, 1<<16 + 1, 1<<8 + 1, -2, -64, -255, 1 - 1<<32, 2 - 1<<32, math.MinInt + 2, math.MinInt + 1, math.MinInt}
}

// kinds are those that there are; noKinds are others.
func kinds() []int {
	return []int{update, read, push, pull, confirm, reset, tick, deliver, drop, twice, spoil}
}
func noKinds() []int { return append(far(), 0, -1, 12, 13, -11, 64, 255, 1<<8+7) }

// number and text are the replies to a read of such a value, with how many keys have one.
func number(n int64, keys int) api.Reply {
	return api.Reply{Value: api.Value{Kind: api.VNumber, N: n}, N: keys}
}
func text(s string, keys int) api.Reply {
	return api.Reply{Value: api.Value{Kind: api.VText, S: s}, N: keys}
}

// answersNew looks what New answers.
func answersNew(t *testing.T, c api.Config, want api.Errno) {
	t.Helper()
	if s, e := New(c); e != want || (s != nil) != (want == api.OK) {
		t.Fatalf("New %+v: %v %d, not %d", c, s, e, want)
	}
}

// TestNewOfConfigurations is P20.1: each of the six numbers, within its bounds and outside.
func TestNewOfConfigurations(t *testing.T) {
	answersNew(t, api.Config{}, api.ErrRange)
	for _, b := range bounds() {
		c := usual()
		for _, n := range []int{b.least, b.least + 1, b.greatest - 1, b.greatest} {
			*b.of(&c) = n
			answersNew(t, c, api.OK)
			x := begun(t, c)
			x.pushes(t, 1, 1)
			x.settles(t)
		}
		for _, n := range append(far(), b.least-1, b.least-2, b.greatest+1, b.greatest+2, 0) {
			if n >= b.least && n <= b.greatest {
				continue
			}
			*b.of(&c) = n
			answersNew(t, c, api.ErrRange)
		}
	}
}

// TestNewOfSeveral is P20.1: all six numbers at their bounds and beyond, each with each.
func TestNewOfSeveral(t *testing.T) {
	all := bounds()
	for n := range 1 << (2 * len(all)) {
		c, want := usual(), api.OK
		for i, b := range all {
			v := []int{b.least - 1, b.least, b.greatest, b.greatest + 1}[n>>(2*i)&3]
			if v < b.least || v > b.greatest {
				want = api.ErrRange
			}
			*b.of(&c) = v
		}
		answersNew(t, c, want)
	}
}

// TestNew is P20.1 and P20.3: nothing was done: nobody knows or pushed anything, and nothing is on its way.
func TestNew(t *testing.T) {
	for _, clients := range []int{1, 2, 3, 63, 64} {
		c := usual()
		c.Clients = clients
		x := begun(t, c)
		if l := x.s.Flight(); len(l) != 0 || len(x.s.Log()) != 0 {
			t.Fatalf("%v, %v", l, x.s.Log())
		}
		for client := 1; client <= clients; client++ {
			x.looks(t, client, api.Look{Epoch: 1})
			x.is(t, reads(client, "k"), api.Reply{})
			x.is(t, at(confirm, client), api.Reply{Yes: true})
			x.is(t, at(pull, client), api.Reply{})
			x.refuses(t, api.ErrNone, at(push, client))
		}
		for _, client := range append(far(), 0, -1, clients+1, clients+2, 65) {
			x.none(t, "New", client)
			if client != 0 {
				x.refuses(t, api.ErrNone, at(tick, client))
			}
		}
		x.ticks(t, 0, 0)
		x.ticks(t, clients, 1)
	}
}

// TestDocumentExample is P20.2: the chapter's.
func TestDocumentExample(t *testing.T) {
	x := begun(t, usual())
	x.is(t, changes(1, set("k", 5)), api.Reply{})
	x.is(t, at(push, 1), api.Reply{N: 1})
	x.is(t, at(tick, 1), api.Reply{N: 1})
	x.is(t, on(deliver, 0), api.Reply{})
	x.is(t, at(tick, 0), api.Reply{N: 1}) // client 2 wasn't heard of yet
	if l := x.s.Flight(); len(l) != 1 || l[0].From != 0 || l[0].To != 1 {
		t.Fatalf("%+v", l)
	}
	x.ticks(t, 2, 1)
	x.is(t, on(deliver, 1), api.Reply{})
	x.is(t, at(tick, 0), api.Reply{N: 2})
}

// stood is one of two clients, of which 1 has three rounds: one that both know, one that is common, and waits at 2, and one that is pending; a fourth update is open, and three packets are on their way, to 1, to 2, and to 0.
func stood(t *testing.T) *pair {
	t.Helper()
	x := begun(t, usual())
	x.pushes(t, 1, 1)
	x.turn(t)
	x.turn(t)
	x.turn(t)
	x.pushes(t, 1, 1)
	x.send(t, 1)
	x.ticks(t, 0, 2)
	x.done(t, on(twice, 1), on(deliver, 1)) // the other one is on its way still
	x.pushes(t, 1, 1)
	x.done(t, at(tick, 1), on(drop, 2), changes(1, put("k", "open")))
	x.looks(t, 1, api.Look{Epoch: 1, Known: 1, Pending: 2, Open: 1, Unacked: 2})
	x.looks(t, 2, api.Look{Epoch: 1, Known: 1, Came: 1})
	if len(x.log) != 2 || len(x.p.flight) != 3 {
		t.Fatalf("%d rounds, %v", len(x.log), x.p.flight)
	}
	x.unchanged(t, "stood")
	return x
}

// TestStood holds the beginning of other tests against what is written out here.
func TestStood(t *testing.T) {
	x := stood(t)
	for i, p := range []api.Packet{
		{From: 0, To: 1, Bytes: datagram(api.Frame{Epoch: 1, Seq: 2, Ack: 2, Data: bytesOf(ordinary(1, 2))})},
		{From: 0, To: 2, Bytes: datagram(api.Frame{Epoch: 1, Seq: 2, Data: bytesOf(ordinary(1, 2))})},
		{From: 1, To: 0, Bytes: datagram(api.Frame{Epoch: 1, Seq: 3, Ack: 1, Data: bytesOf(ordinary(1, 3))})},
	} {
		if got := x.s.Flight()[i]; got != p {
			t.Fatalf("packet %d: %+v, not %+v", i, got, p)
		}
	}
	tells(t, "Log", x.s.Log(), []api.Round{ordinary(1, 1), ordinary(1, 2)})
	tells(t, "Known", x.s.Known(2), []api.Round{ordinary(1, 1)})
	tells(t, "Journal", x.s.Journal(1), []api.Round{ordinary(1, 1), ordinary(1, 2), ordinary(1, 3)})
	if x.s.Unacked(1) != 1 || x.s.Unacked(2) != 1 {
		t.Fatalf("Unacked %d, %d", x.s.Unacked(1), x.s.Unacked(2))
	}
}

// TestNodes is P20.2: at each kind each number of a node: of no client, ErrNone, but for acts of packets, and for a tick of 0.
func TestNodes(t *testing.T) {
	for _, clients := range []int{1, 2, 64} {
		for _, kind := range kinds() {
			c := usual()
			c.Clients = clients
			x := begun(t, c)
			x.pushes(t, clients, 1)
			x.done(t, changes(1, add("k", 1)), changes(clients, add("k", 1)), at(tick, clients))
			for _, node := range append(far(), -1, 0, clients+1, clients+2, 65) {
				a := api.Act{Kind: kind, Node: node, Update: add("k", 1), Key: "k"}
				switch {
				case kind >= deliver:
					x.ticks(t, clients, 1)
					a.N = len(x.p.flight)
					x.refuses(t, api.ErrNone, a) // of the packet
					a.N = 0
					if r := x.do(t, a); r.Err == api.ErrNone {
						t.Fatalf("%+v: %+v", a, r)
					}
				case kind == tick && node == 0:
					x.is(t, a, api.Reply{})
				default:
					x.refuses(t, api.ErrNone, a)
				}
			}
			for _, node := range []int{1, (clients + 1) / 2, clients} {
				a := api.Act{Kind: kind, Node: node, Update: add("k", 1), Key: "k"}
				if r := x.do(t, a); r.Err == api.ErrNone && kind != push && kind < deliver {
					t.Fatalf("%+v: %+v", a, r)
				}
			}
		}
	}
}

// TestNoKinds is P20.2: of other kinds ErrKind, whatever else an act has.
func TestNoKinds(t *testing.T) {
	for _, x := range []*pair{begun(t, usual()), stood(t)} {
		for _, kind := range noKinds() {
			for _, node := range []int{0, 1, 2, 3, -1, math.MinInt, math.MaxInt} {
				for _, n := range []int{0, 2, 3, -1} {
					a := api.Act{Kind: kind, Node: node, N: n, Update: add("k", 1), Key: "k", Bit: 1, Mask: 1}
					if r := x.s.Do(a); r != (api.Reply{Err: api.ErrKind}) {
						t.Fatalf("%+v: %+v", a, r)
					}
				}
			}
			x.refuses(t, api.ErrKind, at(kind, 1))
		}
	}
}

// TestPlaces is P20.2: each number of a packet that there is, and others, with packets on their way and without.
func TestPlaces(t *testing.T) {
	for many := range 4 {
		for _, kind := range []int{deliver, drop, twice, spoil} {
			x := begun(t, usual())
			for range many {
				x.ticks(t, 1, 1)
			}
			for _, n := range append(far(), -1, many, many+1, room-1, room, -many-1) {
				x.refuses(t, api.ErrNone, on(kind, n))
			}
			for n := range many {
				x := begun(t, usual())
				for client := range many {
					x.ticks(t, client%2+1, 1)
				}
				x.is(t, api.Act{Kind: kind, N: n, Mask: 1}, api.Reply{})
				if left := len(x.s.Flight()); left != many+map[int]int{deliver: -1, drop: -1, twice: 1}[kind] {
					t.Fatalf("kind %d: %d packets, and then %d", kind, many, left)
				}
			}
		}
	}
}

// TestNodeOfPackets is P20.2: acts of packets answer and do the same whatever Node is.
func TestNodeOfPackets(t *testing.T) {
	for _, kind := range []int{deliver, drop, twice, spoil} {
		for n := -1; n <= 3; n++ {
			for _, node := range append(far(), 1, 2, 3, -1, 64) {
				one, other := stood(t), stood(t)
				a := api.Act{Kind: kind, N: n, Bit: 9, Mask: 5}
				b := a
				b.Node = node
				if r, q := one.do(t, a), other.do(t, b); r != q {
					t.Fatalf("%+v: %+v, and of the node %d %+v", a, r, node, q)
				}
				one.holds(t, "of the node 0")
				other.holds(t, "of another node")
				if !slices.Equal(one.s.Flight(), other.s.Flight()) || one.s.Look(1) != other.s.Look(1) || one.s.Look(2) != other.s.Look(2) {
					t.Fatalf("%+v does something else of the node %d", a, node)
				}
			}
		}
	}
}

// TestOtherFields is P20.2: what a kind doesn't name plays no part, whatever it is.
func TestOtherFields(t *testing.T) {
	for _, kind := range kinds() {
		plain := api.Act{Kind: kind, Node: 1}
		full := api.Act{Kind: kind, Node: 1, Update: add("k", 7), Key: "a", N: 1 << 40, Bit: -3, Mask: 0xFFFF}
		switch kind {
		case update:
			plain.Update = full.Update
		case read:
			plain.Key = full.Key
		case deliver, drop, twice, spoil:
			plain.N, full.N = 1, 1
		}
		if kind == spoil {
			plain.Bit, plain.Mask = full.Bit, full.Mask
		}
		one, other := stood(t), stood(t)
		for _, u := range []api.Update{full.Update, {Kind: 9}} { // one that may not be, too
			if kind != update {
				full.Update = u
			}
			if r, q := one.do(t, plain), other.do(t, full); r != q {
				t.Fatalf("kind %d: %+v, and %+v", kind, r, q)
			}
			one.unchanged(t, "with nothing else")
			other.unchanged(t, "with all else")
			tells(t, "Journal", one.s.Journal(1), other.s.Journal(1))
			if !slices.Equal(one.s.Flight(), other.s.Flight()) || one.s.Look(1) != other.s.Look(1) {
				t.Fatalf("kind %d does something else", kind)
			}
		}
	}
}

// TestUpdates is P20.2: AUpdate, and what is wrong with one that isn't taken.
func TestUpdates(t *testing.T) {
	x := begun(t, usual())
	for _, f := range []struct {
		u    api.Update
		want api.Errno
	}{
		{api.Update{}, api.ErrRange},
		{put("12345678901234567", ""), api.ErrLong},
		{put("k", "123456789012345678901234567890123"), api.ErrLong},
		{api.Update{Key: "k", Kind: 6}, api.ErrKind},
		{api.Update{Key: "k", Kind: api.USet, S: "x"}, api.ErrForm},
	} {
		r := x.do(t, changes(1, f.u)) // held against value.May's answer
		if r.Err == api.OK || r != (api.Reply{Err: r.Err}) {
			t.Fatalf("%+v: %+v", f.u, r)
		}
		x.unchanged(t, "refused")
	}
	x.refuses(t, api.ErrLong, changes(1, put("1234567890123456", "12345678901234567890123456789012")))
	x.is(t, changes(1, add("k", 1)), api.Reply{})
	x.looks(t, 1, api.Look{Epoch: 1, Open: 1})
	x.is(t, changes(1, put("t", "12345")), api.Reply{})
	x.refuses(t, api.ErrFull, changes(1, add("k", 1)))
	x.looks(t, 1, api.Look{Epoch: 1, Open: 2})
	x.looks(t, 2, api.Look{Epoch: 1})
	x.is(t, reads(1, "k"), number(1, 2))
	x.is(t, reads(1, "t"), text("12345", 2))
	x.is(t, reads(2, "t"), api.Reply{})
}

// TestReads is P20.2: of a client, a key's value, and how many keys have one, whichever is asked for.
func TestReads(t *testing.T) {
	c := usual()
	c.MTU = 200
	x := begun(t, c)
	x.done(t, changes(1, set("n", -7)), changes(1, put("t", "")), changes(1, put("long", "0123456789")), changes(2, del("n")))
	for _, f := range []struct {
		key  string
		want api.Reply
	}{
		{"n", number(-7, 3)}, {"t", text("", 3)}, {"long", text("0123456789", 3)}, {"", api.Reply{N: 3}}, {"nn", api.Reply{N: 3}}, {"12345678901234567890", api.Reply{N: 3}},
	} {
		x.is(t, reads(1, f.key), f.want)
		x.is(t, reads(2, f.key), api.Reply{})
		x.unchanged(t, "read")
	}
}

// TestPushes is P20.2: APush, up to the bound of pending rounds, and none of nothing.
func TestPushes(t *testing.T) {
	for most := 1; most <= 16; most += 5 {
		c := usual()
		c.Push = most
		x := begun(t, c)
		x.refuses(t, api.ErrNone, at(push, 2))
		x.pushes(t, 2, most)
		x.refuses(t, api.ErrNone, at(push, 2))
		x.done(t, changes(2, add("a", 1)))
		x.refuses(t, api.ErrFull, at(push, 2))
		x.looks(t, 2, api.Look{Epoch: 1, Pending: most, Open: 1})
		x.refuses(t, api.ErrNone, at(push, 1))
		for range 3 { // it is sent, told, and pulled
			x.turn(t)
		}
		x.pushes(t, 2, 1)
		x.settles(t)
	}
}

// TestResets is P20.2 and P20.4: a client fails with nothing, with open updates alone, and with pending rounds.
func TestResets(t *testing.T) {
	x := begun(t, usual())
	x.is(t, at(reset, 1), api.Reply{})
	x.looks(t, 1, api.Look{Epoch: 2})
	x.done(t, changes(1, add("a", 1)), at(reset, 1))
	x.looks(t, 1, api.Look{Epoch: 3})
	x.is(t, reads(1, "a"), api.Reply{})
	x.pushes(t, 1, 2)
	x.done(t, changes(1, add("k", 1)), at(reset, 1))
	x.looks(t, 1, api.Look{Epoch: 4, Pending: 2})
	x.looks(t, 2, api.Look{Epoch: 1})
	x.settles(t)
	x.done(t, at(reset, 1), at(reset, 2))
	x.looks(t, 1, api.Look{Epoch: 5, Pending: 2})
	x.looks(t, 2, api.Look{Epoch: 2})
	x.pushes(t, 1, 1)
	x.settles(t)
}

// TestLast is P20.2: up to the number Last and the epoch Last, and no further; all that was pushed settles.
func TestLast(t *testing.T) {
	for last := 1; last <= 4; last++ {
		x := begun(t, api.Config{Clients: 2, Window: 3, Push: 16, Pull: 2, MTU: 64, Last: last})
		x.pushes(t, 1, last)
		x.done(t, changes(1, add("a", 1)))
		x.refuses(t, api.ErrExhausted, at(push, 1))
		x.settles(t)
		x.refuses(t, api.ErrExhausted, at(push, 1))
		for epoch := 2; epoch <= last; epoch++ {
			x.is(t, at(reset, 1), api.Reply{})
			x.looks(t, 1, api.Look{Epoch: epoch, Pending: last})
			x.settles(t)
		}
		x.refuses(t, api.ErrExhausted, at(reset, 1))
		open := 0 // it is lost with the first failure
		if last == 1 {
			open = 1
		}
		x.looks(t, 1, api.Look{Epoch: last, Known: last, Open: open})
		x.pushes(t, 2, last)
		x.settles(t)
	}
}

// TestTicks is P20.2: each tick's packets stand behind those that are on their way; what isn't acknowledged goes again.
func TestTicks(t *testing.T) {
	c := usual()
	c.Window, c.Push = 3, 8
	x := begun(t, c)
	x.ticks(t, 0, 0) // nobody was heard of
	x.ticks(t, 1, 1) // no round, but its epoch
	x.pushes(t, 1, 2)
	x.ticks(t, 1, 2)
	x.pushes(t, 1, 3)
	x.ticks(t, 1, 3)
	x.ticks(t, 2, 1)
	x.ticks(t, 0, 0)
	want := []api.Packet{}
	for _, f := range []api.Frame{{}, {Seq: 1}, {Seq: 2}, {Seq: 1}, {Seq: 2}, {Seq: 3}} {
		f.Epoch = 1
		if f.Seq > 0 {
			f.Data = bytesOf(ordinary(1, f.Seq))
		}
		want = append(want, api.Packet{From: 1, To: 0, Bytes: datagram(f)})
	}
	want = append(want, api.Packet{From: 2, To: 0, Bytes: datagram(api.Frame{Epoch: 1})})
	if l := x.s.Flight(); !slices.Equal(l, want) {
		t.Fatalf("%+v, not %+v", l, want)
	}
	x.arrive(t)
	x.ticks(t, 0, 6) // three for each client
	x.ticks(t, 2, 1)
	for i, p := range x.s.Flight() {
		if f, e := frame.Get(p.Bytes); e != api.OK || i < 6 && (p.From != 0 || p.To != i/3+1 || f.Seq != i%3+1) || i == 6 && p.From != 2 {
			t.Fatalf("packet %d: %+v %+v %d", i, p, f, e)
		}
	}
}

// filled is a system whose bag has so many packets, all of client 2, with sixteen rounds of client 1 pushed.
func filled(t *testing.T, many int) *pair {
	t.Helper()
	c := usual()
	c.Window, c.Push, c.Pull = 16, 16, 16
	x := begun(t, c)
	x.pushes(t, 1, 16)
	x.ticks(t, 2, 1)
	for range many - 1 {
		x.do(t, on(twice, 0))
	}
	x.holds(t, "filled")
	return x
}

// TestLittleRoom is P20.2: of a tick's packets the first ones go, as many as there is room for, or none; the others are lost, and go with a later tick.
func TestLittleRoom(t *testing.T) {
	for _, left := range []int{0, 1, 7, 16, 17} {
		x := filled(t, room-left)
		x.ticks(t, 1, min(left, 16))
		for i, p := range x.s.Flight()[room-left:] {
			if f, e := frame.Get(p.Bytes); e != api.OK || p.From != 1 || f.Seq != i+1 {
				t.Fatalf("with room for %d, the packet %d: %+v %+v %d", left, i, p, f, e)
			}
		}
		x.looks(t, 1, api.Look{Epoch: 1, Pending: 16, Unacked: 16}) // also those for which there was no room
		x.ticks(t, 1, max(left-16, 0))
		x.ticks(t, 2, 0)
		x.done(t, on(deliver, 0)) // there is room again
		x.ticks(t, 1, 1)
		for range room {
			x.do(t, on(drop, 0))
		}
		x.settles(t)
	}
}

// TestLittleRoomForTheSequencer is P20.2: likewise of the packets of 0, which stand client by client.
func TestLittleRoomForTheSequencer(t *testing.T) {
	x := filled(t, 1)
	x.arrive(t)
	x.send(t, 1)
	x.ticks(t, 0, 32)
	all := x.s.Flight()
	for left := 33; left >= 0; left-- {
		for len(x.p.flight) > room-left {
			x.do(t, on(drop, 0))
		}
		for len(x.p.flight) < room-left {
			x.do(t, on(twice, 0))
		}
		x.ticks(t, 0, min(left, 32))
		if l := x.s.Flight()[room-left:]; !slices.Equal(l, all[:len(l)]) {
			t.Fatalf("with room for %d: %+v, not %+v", left, l, all)
		}
	}
}

// TestDoubledIntoLittleRoom is P20.2: 4096 packets may be on their way, and no more.
func TestDoubledIntoLittleRoom(t *testing.T) {
	x := filled(t, room-1)
	x.is(t, on(twice, room-2), api.Reply{})
	x.refuses(t, api.ErrFull, on(twice, 0), on(twice, room-1))
	x.refuses(t, api.ErrNone, on(twice, room), on(twice, -1), on(spoil, room), on(drop, room), on(deliver, room))
	x.is(t, spoils(room-1, 0, 1), api.Reply{})
	x.refuses(t, api.ErrFull, on(twice, room-1))
	x.refuses(t, api.ErrSum, on(deliver, room-1))
	x.is(t, on(twice, 7), api.Reply{})
	x.refuses(t, api.ErrFull, on(twice, 7))
	x.is(t, on(drop, 0), api.Reply{})
	x.is(t, on(twice, 0), api.Reply{})
}

// TestSpoilt is P20.2: what is spoilt is refused where it comes, and is gone; it is spoilt once, and its doubles too.
func TestSpoilt(t *testing.T) {
	for _, n := range []int{0, 1, 2} { // packets to 1, to 2, and to 0
		for _, bits := range []struct {
			bit  int
			mask uint32
		}{{0, 1}, {7, 3}, {-31, 1 << 31}, {30, math.MaxUint32}, {100, 1}} {
			x := stood(t)
			x.is(t, spoils(n, bits.bit, bits.mask), api.Reply{})
			x.refuses(t, api.ErrTwice, spoils(n, bits.bit, bits.mask), spoils(n, 3, 0))
			x.done(t, on(twice, n))
			x.refuses(t, api.ErrTwice, spoils(3, 3, 1))
			x.refuses(t, api.ErrSum, on(deliver, 3), on(deliver, n))
			if l := x.s.Flight(); len(l) != 2 {
				t.Fatalf("%+v", l)
			}
			x.settles(t)
		}
	}
}

// TestSpoiltByNothing is P20.2: a packet that is spoilt by no bit comes as it was, but isn't spoilt again.
func TestSpoiltByNothing(t *testing.T) {
	for _, a := range []api.Act{spoils(0, 0, 0), spoils(0, 8*1400, math.MaxUint32), spoils(0, -32, math.MaxUint32), spoils(0, math.MaxInt, 1), spoils(0, math.MinInt, math.MaxUint32)} {
		x := stood(t)
		x.is(t, a, api.Reply{})
		x.refuses(t, api.ErrTwice, spoils(0, 0, 1))
		x.is(t, on(deliver, 0), api.Reply{})
		x.looks(t, 1, api.Look{Epoch: 1, Known: 1, Pending: 2, Open: 1, Came: 1, Unacked: 1})
	}
}

// TestDoubledAheadOfASpoil is P20.2: the other one comes.
func TestDoubledAheadOfASpoil(t *testing.T) {
	x := stood(t)
	x.done(t, on(twice, 2), spoils(2, 5, 1))
	x.refuses(t, api.ErrSum, on(deliver, 2))
	x.is(t, on(deliver, 2), api.Reply{})
	if len(x.log) != 3 {
		t.Fatalf("%v", x.log)
	}
}

// TestDropped is P20.2: what is lost is gone, and changes nothing else.
func TestDropped(t *testing.T) {
	for n := range 3 {
		x := stood(t)
		l := x.s.Flight()
		one, two, log := x.s.Look(1), x.s.Look(2), x.s.Log()
		x.is(t, on(drop, n), api.Reply{})
		if want := slices.Delete(l, n, n+1); !slices.Equal(x.s.Flight(), want) {
			t.Fatalf("%+v, not %+v", x.s.Flight(), want)
		}
		x.looks(t, 1, one)
		x.looks(t, 2, two)
		tells(t, "Log", x.s.Log(), log)
		x.settles(t)
	}
}

// TestDoubled is P20.2: a packet is twice on its way, the second one behind all others.
func TestDoubled(t *testing.T) {
	for n := range 3 {
		x := stood(t)
		l := x.s.Flight()
		x.is(t, on(twice, n), api.Reply{})
		if want := append(l, l[n]); !slices.Equal(x.s.Flight(), want) {
			t.Fatalf("%+v, not %+v", x.s.Flight(), want)
		}
		x.done(t, on(deliver, 3), on(deliver, n))
		x.settles(t)
	}
}

// TestFailedOnTheWay is P20.2: packets to a client that failed since are ErrStale, and gone; those from it come, as long as the sequencer knows of no later epoch.
func TestFailedOnTheWay(t *testing.T) {
	x := stood(t)
	x.is(t, at(reset, 1), api.Reply{})
	x.refuses(t, api.ErrStale, on(deliver, 0)) // to 1
	x.is(t, on(deliver, 1), api.Reply{})       // from 1
	if len(x.log) != 3 {
		t.Fatalf("%v", x.log)
	}
	x.looks(t, 1, api.Look{Epoch: 2, Pending: 3})
	x.settles(t)

	x = stood(t)
	x.done(t, at(reset, 1), at(tick, 1), on(deliver, 4), on(deliver, 3)) // its rounds 1 and 2 again, in another order
	x.refuses(t, api.ErrStale, on(deliver, 2), on(deliver, 0))
	if len(x.log) != 2 || len(x.s.Flight()) != 1 {
		t.Fatalf("%v %v", x.log, x.s.Flight())
	}
	x.settles(t)
}

// TestLateAndTwice is P20.2 and P20.4: packets that come late, twice, and in any order.
func TestLateAndTwice(t *testing.T) {
	for order := range 24 { // of four packets
		c := usual()
		c.Window, c.Push = 4, 4
		x := begun(t, c)
		x.pushes(t, 1, 4)
		x.ticks(t, 1, 4)
		for n := range 4 {
			x.done(t, on(twice, n))
		}
		for left := 4; left > 0; left-- {
			x.done(t, on(deliver, order%left))
			order /= left
		}
		x.arrive(t) // all of them, once more
		x.settles(t)
	}
}

// TestFroms is P20.2: a packet is heard by 0 as from From, and by a client whatever From is.
func TestFroms(t *testing.T) {
	first := datagram(api.Frame{Epoch: 1, Seq: 1, Data: bytesOf(ordinary(2, 1))})
	for _, f := range []struct {
		from, many int
		want       api.Errno
	}{{0, 0, api.ErrNone}, {1, 0, api.OK}, {2, 1, api.OK}, {3, 0, api.ErrNone}, {-1, 0, api.ErrNone}, {math.MinInt, 0, api.ErrNone}, {math.MaxInt, 0, api.ErrNone}, {1<<32 + 2, 0, api.ErrNone}} {
		x := begun(t, usual())
		x.pushes(t, 2, 1)
		x.carry(api.Packet{From: f.from, To: 0, Bytes: first})
		if f.want == api.OK {
			x.is(t, on(deliver, 0), api.Reply{})
		} else {
			x.refuses(t, f.want, on(deliver, 0))
		}
		if len(x.log) != f.many || len(x.s.Flight()) != 0 {
			t.Fatalf("from %d: %v %v", f.from, x.log, x.s.Flight())
		}
	}
	for _, from := range append(far(), -1, 0, 1, 2, 3, 64) {
		x := stood(t)
		p := x.s.Flight()[0]
		p.From = from
		x.carry(p)
		x.is(t, on(deliver, 3), api.Reply{})
		x.looks(t, 1, api.Look{Epoch: 1, Known: 1, Pending: 2, Open: 1, Came: 1, Unacked: 1})
		x.is(t, at(pull, 1), api.Reply{N: 1})
	}
}

// TestNobody is P20.2: a packet to no node is taken out, and heard by nobody.
func TestNobody(t *testing.T) {
	for _, to := range append(far(), -1, 3, 4, 64, 65) {
		x := stood(t)
		p := x.s.Flight()[0]
		p.To = to
		x.carry(p)
		x.refuses(t, api.ErrNone, on(deliver, 3))
		x.carry(api.Packet{From: 1, To: to, Bytes: "no frame"})
		x.refuses(t, api.ErrNone, on(deliver, 3))
		if l := x.s.Flight(); len(l) != 3 {
			t.Fatalf("%v", l)
		}
	}
}

// TestNoFrames is P20.2: bytes that are no frame, wherever they come.
func TestNoFrames(t *testing.T) {
	for _, to := range []int{0, 1, 2} {
		for _, bytes := range []string{"", "x", "no frame at all", datagram(api.Frame{Epoch: 1})[1:]} {
			_, e := frame.Get(bytes)
			x := stood(t)
			x.carry(api.Packet{From: 1, To: to, Bytes: bytes})
			x.refuses(t, e, on(deliver, 3))
		}
	}
}

// TestWindows is P20.5: as many pieces as Window are unacknowledged at a link, and as many as Pull wait, and no more, whatever comes.
func TestWindows(t *testing.T) {
	for window := 1; window <= 16; window += 3 {
		for pulls := 1; pulls <= 16; pulls += 5 {
			x := begun(t, api.Config{Clients: 3, Window: window, Push: 16, Pull: pulls, MTU: 64, Last: 1000})
			x.send(t, 1, 2, 3)
			x.pushes(t, 1, 16)
			x.pushes(t, 2, 16)
			x.ticks(t, 1, window)
			x.ticks(t, 2, window)
			if l := x.s.Look(1); l.Unacked != window {
				t.Fatalf("%+v", l)
			}
			x.arrive(t)
			x.ticks(t, 0, 3*min(window, 2*window))
			if n := x.s.Unacked(3); n != window {
				t.Fatalf("Unacked %d", n)
			}
			for range 64 { // nobody pulls
				x.send(t, 0, 1, 2, 3)
			}
			x.looks(t, 3, api.Look{Epoch: 1, Came: pulls})
			x.settles(t)
		}
	}
}

// TestMTU is P20.5: at each mtu rounds that just fit come through, by packets of at most so many bytes.
func TestMTU(t *testing.T) {
	for _, mtu := range []int{64, 65, 80, 127, 128, 200, 458, 459, 1399, 1400} {
		c := api.Config{Clients: 2, Window: 2, Push: 2, Pull: 2, MTU: mtu, Last: maxLast}
		if mtu == 64 || mtu == 1400 {
			c.Clients = 64
		}
		x := begun(t, c)
		for _, client := range []int{1, c.Clients} {
			for range 2 {
				for _, u := range []api.Update{put("1234567890123456", "12345678901234567890123456789012"), put("123456789", "12345678"), put("a", "1234"), put("t", "1"), add("a", 1<<61-1), set("s", 3), del("t"), del("")} {
					for range 8 {
						x.do(t, changes(client, u))
					}
				}
				x.done(t, at(push, client))
			}
		}
		x.settles(t)
	}
}

// TestManyClients is P20.2 to P20.4: 64 of them, all of which push at once, and of which some fail.
func TestManyClients(t *testing.T) {
	c := usual()
	c.Clients, c.Window = 64, 16
	x := newPair(t, c)
	for client := 1; client <= 64; client++ {
		x.do(t, changes(client, add("a", int64(client))))
		if r := x.do(t, at(push, client)); r != (api.Reply{N: 1}) {
			t.Fatalf("%d: %+v", client, r)
		}
	}
	x.holds(t, "pushed")
	x.turn(t)
	x.holds(t, "a turn")
	for client := 7; client <= 64; client += 7 {
		x.done(t, at(reset, client))
	}
	x.settles(t)
	x.is(t, reads(64, "a"), number(64*65/2, 1))
	if n := len(x.s.Log()); n != 64 {
		t.Fatalf("%d rounds", n)
	}
}

// TestManyRounds is P20.2 to P20.4: more rounds than a byte or two can count.
func TestManyRounds(t *testing.T) {
	const many = 1<<16 + 300
	c := usual()
	c.Clients, c.Last = 1, maxLast
	s := made(t, c)
	for i := 1; i <= many; i++ {
		for _, f := range []struct {
			a    api.Act
			want api.Reply
		}{
			{changes(1, add("a", 1)), api.Reply{}}, {at(push, 1), api.Reply{N: i}}, {at(tick, 1), api.Reply{N: 1}}, {on(deliver, 0), api.Reply{}},
			{at(tick, 0), api.Reply{N: 1}}, {on(deliver, 0), api.Reply{}}, {at(pull, 1), api.Reply{N: 1}},
		} {
			if r := s.Do(f.a); r != f.want {
				t.Fatalf("the round %d: %+v: %+v", i, f.a, r)
			}
		}
	}
	if r := s.Do(reads(1, "a")); r != number(many, 1) || s.Look(1) != (api.Look{Epoch: 1, Known: many}) || len(s.Log()) != many || len(s.Known(1)) != many || len(s.Journal(1)) != many {
		t.Fatalf("%+v %+v", r, s.Look(1))
	}
}

// lists are all that a system tells by lists.
func lists(s *System) [][]api.Round {
	return [][]api.Round{s.Log(), s.Known(1), s.Journal(1), s.Known(2), s.Journal(2)}
}

// texts are all that it tells by texts.
func texts(s *System) []string {
	var l []string
	for _, rounds := range lists(s) {
		for _, r := range rounds {
			for _, u := range r.Updates {
				l = append(l, u.Key, u.S)
			}
		}
	}
	for _, p := range s.Flight() {
		l = append(l, p.Bytes)
	}
	return append(l, s.Do(reads(1, "t")).Value.S)
}

// full is stood, with rounds of texts on both sides.
func full(t *testing.T) *pair {
	t.Helper()
	x := stood(t)
	x.done(t, at(push, 1))
	for client := 1; client <= 2; client++ {
		x.settles(t)
		x.done(t, changes(client, put("t", "text")), at(push, client))
	}
	x.settles(t)
	x.ticks(t, 0, 2)
	return x
}

// TestAnswersAreTheCallers is P20.3: what the caller does with the lists that were told, and with the updates within them, shows nowhere.
func TestAnswersAreTheCallers(t *testing.T) {
	for _, x := range []*pair{stood(t), full(t)} {
		for range 2 {
			one, other, want := lists(x.s), lists(x.s), lists(x.s)
			for i := range one {
				l := one[i]
				for j := range l[:cap(l)] {
					u := l[:cap(l)][j].Updates
					for k := range u[:cap(u)] {
						u[:cap(u)][k] = put("spoilt", "spoilt")
					}
					l[:cap(l)][j] = of(9, 9)
				}
				tells(t, "two answers share memory", other[i], want[i])
				for j := i + 1; j < len(one); j++ {
					tells(t, "two lists share memory", one[j], want[j])
				}
			}
			l, same := x.s.Flight(), x.s.Flight()
			kept := slices.Clone(same)
			for i := range l[:cap(l)] {
				l[:cap(l)][i] = api.Packet{From: 9, To: 9, Bytes: "spoilt"}
			}
			if !slices.Equal(same, kept) {
				t.Fatalf("two answers share a list: %v", same)
			}
			x.unchanged(t, "spoilt")
			x.turn(t)
		}
	}
}

// TestTextsAreNew: the texts that are told are memory of their own, so that none of them keeps a longer one.
func TestTextsAreNew(t *testing.T) {
	x := full(t)
	seen := map[*byte]bool{}
	for range 3 {
		for _, s := range texts(x.s) {
			if s == "" {
				continue
			}
			if p := unsafe.StringData(s); seen[p] {
				t.Fatalf("%q is told from elsewhere", s)
			} else {
				seen[p] = true
			}
		}
	}
	if len(seen) < 20 {
		t.Fatalf("%d texts: too little to tell anything", len(seen))
	}
}

// TestHandedInIsNotKept: what becomes of the memory of an act's texts shows nowhere, and both are left as they are.
func TestHandedInIsNotKept(t *testing.T) {
	x := begun(t, usual())
	for range 3 {
		key, s := []byte("t"), []byte("text")
		a := changes(1, put(unsafe.String(&key[0], 1), unsafe.String(&s[0], 4)))
		a.Key = unsafe.String(&key[0], 1)
		if r := x.s.Do(a); r != (api.Reply{}) || string(key)+string(s) != "ttext" {
			t.Fatalf("%+v, %q %q", r, key, s)
		}
		clear(key)
		clear(s)
		b := changes(1, put("t", "text"))
		x.p.do(b)
		x.twin.Do(b)
		x.lived(t, b, api.Reply{})
		x.is(t, reads(1, "t"), text("text", 1))
		key = []byte("t")
		a = api.Act{Kind: read, Node: 1, Key: unsafe.String(&key[0], 1)}
		r := x.s.Do(a)
		clear(key)
		if r != text("text", 1) {
			t.Fatalf("%+v", r)
		}
		x.done(t, at(push, 1))
		x.settles(t)
	}
	x.unchanged(t, "behind changes of what was handed in")
}

// TestAskedAgain is P20.3: what is asked tells the same, however often, and changes nothing.
func TestAskedAgain(t *testing.T) {
	x := stood(t)
	for range 4 {
		for range 5 {
			x.holds(t, "again")
		}
		x.is(t, reads(1, "k"), x.do(t, reads(1, "k")))
		x.is(t, at(confirm, 1), api.Reply{})
		x.unchanged(t, "asked again")
		x.turn(t)
	}
}

// TestNoClients is P20.3: none, and zero ones, of what is no client, whatever was done.
func TestNoClients(t *testing.T) {
	for _, x := range []*pair{begun(t, usual()), stood(t), full(t)} {
		for _, client := range append(far(), -1, 0, 3, 4, 63, 64, 65) {
			x.none(t, "no client", client)
		}
		x.unchanged(t, "asked of no clients")
	}
}
