package sequencer

import (
	"math"
	"slices"
	"strings"
	"testing"
	"unsafe"

	"chapbook/api"
	"chapbook/crc"
	"chapbook/frame"
	"chapbook/round"
)

// bound is of a configuration's number: the least and the greatest that it may be.
type bound struct {
	name            string
	least, greatest int
	of              func(*api.Config) *int
}

func bounds() []bound {
	return []bound{
		{"Clients", 1, 64, func(c *api.Config) *int { return &c.Clients }},
		{"Window", 1, 16, func(c *api.Config) *int { return &c.Window }},
		{"Push", 1, 16, func(c *api.Config) *int { return &c.Push }},
		{"Pull", 1, 16, func(c *api.Config) *int { return &c.Pull }},
		{"MTU", 64, 1400, func(c *api.Config) *int { return &c.MTU }},
		{"Last", 1, 1 << 40, func(c *api.Config) *int { return &c.Last }},
	}
}

// may looks what May and New answer of a configuration.
func may(t *testing.T, c api.Config, want api.Errno) {
	t.Helper()
	if e := May(c); e != want {
		t.Fatalf("May %+v: %d, not %d", c, e, want)
	}
	if s, e := New(c); e != want || (s != nil) != (want == api.OK) {
		t.Fatalf("New %+v: %v %d, not %d", c, s, e, want)
	}
}

// TestMay is P16.1: each of the six numbers, within its bounds and outside, among ordinary ones.
func TestMay(t *testing.T) {
	may(t, config(3, 4, 100), api.OK)
	may(t, api.Config{}, api.ErrRange)
	for _, b := range bounds() {
		with := func(n int, want api.Errno) {
			t.Helper()
			c := config(3, 4, 100)
			*b.of(&c) = n
			may(t, c, want)
		}
		for n := b.least; n <= min(b.greatest, 1400); n++ {
			with(n, api.OK)
		}
		for bit := range 41 {
			with(min(max(1<<bit, b.least), b.greatest), api.OK)
		}
		with(b.greatest-1, api.OK)
		with(b.greatest, api.OK)
		for _, n := range []int{b.least - 1, b.least - 2, 0, -1, -b.least, -b.greatest, b.greatest + 1, b.greatest + 2, 2 * b.greatest,
			1<<48 + b.least, 1<<62 + b.least, -1<<32 + b.least, math.MinInt, math.MinInt + 1, math.MaxInt} {
			with(n, api.ErrRange)
		}
	}
}

// TestMayOfSeveral is P16.1: all six numbers at their bounds and beyond, each with each: one that is wrong is as wrong as several.
func TestMayOfSeveral(t *testing.T) {
	for i := range 4 * 4 * 4 * 4 * 4 * 4 {
		var c api.Config
		want := api.OK
		for _, b := range bounds() {
			*b.of(&c) = []int{b.least - 1, b.least, b.greatest, b.greatest + 1}[i%4]
			if i%4 == 0 || i%4 == 3 {
				want = api.ErrRange
			}
			i /= 4
		}
		may(t, c, want)
	}
}

// TestNew is P16.1: no rounds, nothing to send, and as many clients as the configuration has.
func TestNew(t *testing.T) {
	for clients := 1; clients <= 64; clients++ {
		x := begun(t, config(clients, 2, 64))
		for range 3 {
			if l := x.tick(t); len(l) != 0 {
				t.Fatalf("%d clients: Tick of none that was heard: %x", clients, l)
			}
		}
		x.refuses(t, clients+1, datagram(api.Frame{Epoch: 1}), api.ErrNone)
		for client := clients; client >= 1; client-- {
			x.sendRounds(t, client, ordinary(client, 1))
		}
		if l := x.tick(t); len(l) != min(clients, 2)*clients {
			t.Fatalf("%d clients: %d packets", clients, len(l))
		}
	}
}

// TestDocumentExample is P16.2 and P16.3: the chapter's, with all bytes written out.
func TestDocumentExample(t *testing.T) {
	s := made(t, config(3, 2, 64))
	if e := s.Hear(1, "\x01\x01\x00\x06\x01\x01\x01\x05\x01k\x80\xf9\x45\x73"); e != api.OK {
		t.Fatalf("client 1: %d", e)
	}
	want := of(1, 1, api.Update{Key: "k", Kind: api.UDelete})
	if l := s.Log(); len(l) != 1 || !round.Same(l[0], want) {
		t.Fatalf("Log: %v", l)
	}
	one := api.Packet{From: 0, To: 1, Bytes: "\x01\x01\x01\x06\x01\x01\x01\x05\x01k\xa7\x84\x79\x3a"}
	if l := s.Tick(); !slices.Equal(l, []api.Packet{one}) {
		t.Fatalf("Tick: %x", l)
	}
	if e := s.Hear(3, "\x02\x00\x00\x00\x46\x68\x00\xf7"); e != api.OK {
		t.Fatalf("client 3: %d", e)
	}
	three := api.Packet{From: 0, To: 3, Bytes: "\x02\x01\x00\x06\x01\x01\x01\x05\x01k\x9e\x03\x53\x2b"}
	if l := s.Tick(); !slices.Equal(l, []api.Packet{one, three}) {
		t.Fatalf("Tick, with client 3: %x", l)
	}
	if s.Fed(1) != 1 || s.Unacked(1) != 1 || s.Fed(3) != 1 || s.Unacked(3) != 1 {
		t.Fatalf("Fed %d and %d, Unacked %d and %d", s.Fed(1), s.Fed(3), s.Unacked(1), s.Unacked(3))
	}
}

// TestRoundsOfSeveral is P16.2 and P16.3: rounds of several origins come to the log as they come, and are told in that order to each client.
func TestRoundsOfSeveral(t *testing.T) {
	for window := 1; window <= 16; window++ {
		x := heard(t, config(5, window, 64))
		for i := range 20 {
			from := (i*i+i/3)%5 + 1
			x.sendRounds(t, from, ordinary(from, x.p.lastOf(from)+1))
			if i%3 == 0 {
				x.tick(t)
			}
			if i%4 == 0 {
				x.ack(t, i%5+1, min(x.s.Unacked(i%5+1), 1))
			}
		}
		x.drain(t)
		for _, p := range x.tick(t) { // nothing is left to send
			if f, e := frame.Get(p.Bytes); e != api.OK || f.Seq != 0 || f.Ack != x.p.lastOf(p.To) {
				t.Fatalf("to %d: %+v %d", p.To, f, e)
			}
		}
	}
}

// TestWindow is P16.2 and P16.3: so many rounds as the window aren't acknowledged; with each acknowledgement as many more are fed, by the next Tick and not before.
func TestWindow(t *testing.T) {
	for window := 1; window <= 16; window++ {
		for step := 1; step <= window; step++ {
			x := heard(t, config(2, window, 64))
			x.sendRounds(t, 1, filled(1, 1, 40)...)
			x.tick(t)
			for at := window; at < 40; at = min(at+step, 40) {
				if n := x.s.Fed(2); n != at || x.s.Unacked(2) != window {
					t.Fatalf("window %d: Fed %d, Unacked %d, not %d, %d", window, n, x.s.Unacked(2), at, window)
				}
				x.ack(t, 2, step)
				if n := x.s.Fed(2); n != at || x.s.Unacked(2) != window-step {
					t.Fatalf("window %d: acknowledged: Fed %d, Unacked %d", window, n, x.s.Unacked(2))
				}
				x.tick(t)
			}
			if n := x.s.Fed(1); n != window { // it acknowledged nothing
				t.Fatalf("window %d: Fed of client 1: %d", window, n)
			}
			x.drain(t)
		}
	}
}

// TestTickAgain is P16.3: a Tick behind a Tick, with nothing new, sends the same packets.
func TestTickAgain(t *testing.T) {
	for _, window := range []int{1, 2, 3, 16} {
		x := begun(t, config(4, window, 64))
		again := func() {
			t.Helper()
			l := x.tick(t)
			for range 3 {
				if again := x.tick(t); !slices.Equal(l, again) {
					t.Fatalf("again: %x, not %x", again, l)
				}
			}
		}
		again()
		x.sendRounds(t, 2, filled(2, 1, 5)...)
		again()
		x.hears(t, 3, api.Frame{Epoch: 7})
		again()
		x.ack(t, 3, 1)
		again()
		x.ack(t, 3, x.s.Unacked(3))
		again()
		x.drain(t)
		again()
	}
}

// TestNeverHeard is P16.3: to a client that was never heard goes no packet, though it is fed as many rounds as the window; heard at last, it is told all from the first one on.
func TestNeverHeard(t *testing.T) {
	for window := 1; window <= 16; window++ {
		for _, epoch := range []int{1, 2, last} {
			x := begun(t, config(3, window, 64))
			x.sendRounds(t, 2, filled(2, 1, 10)...)
			for range 4 {
				for _, p := range x.tick(t) {
					if p.To != 2 {
						t.Fatalf("window %d: a packet to %d", window, p.To)
					}
				}
			}
			if n := x.s.Fed(1); n != min(window, 10) || x.s.Unacked(1) != n || x.s.Fed(3) != n {
				t.Fatalf("window %d: Fed %d, Unacked %d", window, n, x.s.Unacked(1))
			}
			x.hears(t, 1, api.Frame{Epoch: epoch, Ack: 1})
			if x.s.Fed(1) != 0 || x.s.Unacked(1) != 0 || x.s.Fed(3) != min(window, 10) {
				t.Fatalf("window %d: heard: Fed %d, Unacked %d", window, x.s.Fed(1), x.s.Unacked(1))
			}
			l := x.tick(t)
			if f, e := frame.Get(l[0].Bytes); e != api.OK || f != (api.Frame{Epoch: epoch, Seq: 1, Data: bytesOf(ordinary(2, 1))}) {
				t.Fatalf("window %d: the first packet: %+v %d", window, f, e)
			}
			x.drain(t)
		}
	}
}

// TestLaterEpoch is P16.2: with the first frame of a later epoch the feed is Reset, and all rounds are told anew; the log stays; with one of the same epoch nothing begins anew.
func TestLaterEpoch(t *testing.T) {
	for window := 1; window <= 16; window++ {
		x := heard(t, config(3, window, 64))
		x.sendRounds(t, 1, filled(1, 1, 7)...)
		x.sendRounds(t, 2, filled(2, 1, 7)...)
		x.drain(t)
		for _, epoch := range []int{2, 3, 9, 1 << 32, last - 1, last} {
			x.hears(t, 2, api.Frame{Epoch: epoch, Ack: 3})
			if x.s.Fed(2) != 0 || x.s.Unacked(2) != 0 || x.s.Fed(1) != 14 || len(x.s.Log()) != 14 {
				t.Fatalf("epoch %d: Fed %d, Unacked %d, %d rounds", epoch, x.s.Fed(2), x.s.Unacked(2), len(x.s.Log()))
			}
			x.tick(t)
			for range 3 {
				x.hears(t, 2, api.Frame{Epoch: epoch})
				if x.s.Fed(2) != min(window, 14) || x.s.Unacked(2) != min(window, 14) {
					t.Fatalf("epoch %d again: Fed %d, Unacked %d", epoch, x.s.Fed(2), x.s.Unacked(2))
				}
			}
			x.drain(t)
		}
	}
}

// TestBegunAnew is P16.2 and P16.4: a client that begins anew sends all its rounds again, and goes on behind them: the log has each once.
func TestBegunAnew(t *testing.T) {
	x := heard(t, config(2, 4, 64))
	x.sendRounds(t, 2, ordinary(2, 1))
	for epoch := 2; epoch <= 6; epoch++ {
		before := len(x.p.rounds)
		for number := range x.p.lastOf(1) {
			x.hears(t, 1, api.Frame{Epoch: epoch, Seq: number + 1, Data: bytesOf(ordinary(1, number+1))})
		}
		if len(x.p.rounds) != before || x.p.end(1).taken != before-1 {
			t.Fatalf("epoch %d: %d rounds, not %d; %d pieces taken", epoch, len(x.p.rounds), before, x.p.end(1).taken)
		}
		x.hears(t, 1, api.Frame{Epoch: epoch, Seq: before, Data: bytesOf(ordinary(1, before))})
		if n := len(x.p.rounds); n != before+1 {
			t.Fatalf("epoch %d: the next round: %d", epoch, n)
		}
		x.tick(t)
	}
	x.drain(t)
}

// TestLaterEpochWithARound is P16.2: the frame by which all begins anew is itself taken, if its piece is the first one.
func TestLaterEpochWithARound(t *testing.T) {
	x := begun(t, config(2, 2, 64))
	x.hears(t, 1, api.Frame{Epoch: 5, Seq: 1, Data: bytesOf(ordinary(1, 1))})
	x.hears(t, 1, api.Frame{Epoch: 6, Seq: 2, Data: bytesOf(ordinary(1, 2))}) // it isn't the first one
	if n := len(x.p.rounds); n != 1 {
		t.Fatalf("%d rounds", n)
	}
	x.hears(t, 1, api.Frame{Epoch: 7, Seq: 1, Data: bytesOf(ordinary(1, 2))})
	if n := len(x.p.rounds); n != 2 {
		t.Fatalf("%d rounds", n)
	}
	x.drain(t)
}

// permutations: all orders of the numbers 1 to n.
func permutations(n int) [][]int {
	if n == 0 {
		return [][]int{nil}
	}
	var all [][]int
	for _, l := range permutations(n - 1) {
		for i := range n {
			all = append(all, slices.Insert(slices.Clone(l), i, n))
		}
	}
	return all
}

// TestAnyOrder is P16.2 and P16.4: pieces that come in any order, time and again, till each gap is filled: the log has them in order.
func TestAnyOrder(t *testing.T) {
	for _, window := range []int{1, 5} {
		for _, order := range permutations(5) {
			x := begun(t, config(2, window, 64))
			for range 5 {
				for _, n := range order {
					x.hears(t, 1, api.Frame{Epoch: 1, Seq: n, Data: bytesOf(ordinary(1, n))})
				}
			}
			if !slices.EqualFunc(x.s.Log(), filled(1, 1, 5), round.Same) {
				t.Fatalf("%v: %v", order, x.s.Log())
			}
			if l := x.tick(t); l[0].Bytes != datagram(api.Frame{Epoch: 1, Seq: 1, Ack: 5, Data: bytesOf(ordinary(1, 1))}) {
				t.Fatalf("%v: %x", order, l)
			}
		}
	}
}

// TestGap is P16.2: pieces behind a gap aren't taken; once it is filled, all of them are, as they come again.
func TestGap(t *testing.T) {
	x := heard(t, config(1, 16, 64))
	come := func(taken int, numbers ...int) {
		t.Helper()
		for _, n := range numbers {
			x.hears(t, 1, api.Frame{Epoch: 1, Seq: n, Data: bytesOf(ordinary(1, min(n, last)))})
		}
		if x.p.end(1).taken != taken || len(x.s.Log()) != taken {
			t.Fatalf("behind %v: %d taken, %d rounds", numbers, x.p.end(1).taken, len(x.s.Log()))
		}
	}
	come(0, 2, 3, 5, 4, 17, maxSeq)
	come(1, 1)
	come(1, 3, 5, 1)
	come(3, 2, 3, 2)
	come(5, 5, 4, 5)
	come(20, 6, 7, 8, 9, 10, 11, 12, 13, 14, 15, 16, 17, 18, 19, 20)
	x.drain(t)
}

// TestAllThatWaits is P16.2: all that waits at the link is popped, one by one, in order. By Hear alone no more than one piece ever waits, so the link hears the others here without it.
func TestAllThatWaits(t *testing.T) {
	for many := range 16 {
		x := heard(t, config(2, 16, 64))
		for n := 1; n <= many; n++ {
			f := api.Frame{Epoch: 1, Seq: n, Data: bytesOf(ordinary(2, n))}
			if n%4 == 0 { // and one that is left out doesn't end it
				f.Data = "no round"
			}
			x.s.ends[1].link.Hear(f)
			x.p.hear(2, f)
		}
		x.hears(t, 2, api.Frame{Epoch: 1, Seq: many + 1, Data: bytesOf(ordinary(2, many+1))})
		if n := x.s.ends[1].link.Waiting(); n != 0 {
			t.Fatalf("%d wait", n)
		}
		x.tick(t)
	}
}

// sized is updates whose fields have so many bytes in all, from 4 to 408, as few as can be.
func sized(many int) []api.Update {
	var l []api.Update
	for left := (many + 50) / 51; left > 0; left-- {
		bytes := many / left // of this one; its key and its piece have three bytes less
		key := max(1, bytes-3-32)
		l = append(l, api.Update{Key: strings.Repeat("k", key), Kind: api.UAppend, S: strings.Repeat("s", bytes-3-key)})
		many -= bytes
	}
	return l
}

// TestFits is P16.2: at each mtu a round that just fits comes to the log, and one that just does not is left out: the origin's 64 and the number's 2^40 count, whatever they are.
func TestFits(t *testing.T) {
	for mtu := 64; mtu <= 520; mtu++ {
		for _, from := range []int{1, 63, 64} {
			fits := min(mtu-40-11, 408) // 11: of the origin, the number, and how many updates there are
			x := begun(t, config(64, 2, mtu))
			x.sendRounds(t, from, of(from, 1, sized(fits)...), of(from, 2, sized(fits-1)...))
			if fits < 408 {
				x.send(t, from, bytesOf(of(from, 3, sized(fits+1)...)))
				x.send(t, from, bytesOf(of(from, 3, sized(408)...)))
			}
			if n := len(x.p.rounds); n != 2 {
				t.Fatalf("mtu %d: %d rounds", mtu, n)
			}
			x.sendRounds(t, from, ordinary(from, 3))
			for range 3 {
				for _, p := range x.tick(t) {
					if len(p.Bytes) > mtu {
						t.Fatalf("mtu %d: a packet of %d bytes", mtu, len(p.Bytes))
					}
				}
				x.ackAll(t)
			}
		}
	}
}

// TestGreatestMTU is P16.2: at 1400 each round fits, the greatest one too; nine updates are no round.
func TestGreatestMTU(t *testing.T) {
	for _, mtu := range []int{459, 1399, 1400} {
		x := heard(t, config(2, 16, mtu))
		x.sendRounds(t, 2, of(2, 1, sized(408)...), ordinary(2, 2))
		b := []byte(bytesOf(of(2, 3, slices.Repeat(sized(51), 8)...)))
		b[2] = 9
		x.send(t, 2, string(b)+string(b[3:54]))
		if n := len(x.p.rounds); n != 2 {
			t.Fatalf("mtu %d: nine updates: %d rounds", mtu, n)
		}
		x.drain(t)
	}
	x := heard(t, config(2, 16, 458))
	x.send(t, 2, bytesOf(of(2, 1, sized(408)...)))
	if n := len(x.p.rounds); n != 0 {
		t.Fatalf("mtu 458: %d rounds", n)
	}
}

// noRounds: data that never comes to the log as client 1's round 2.
func noRounds() []string {
	good := bytesOf(ordinary(1, 2))
	l := []string{"", "x", "\x00", "\x01", good[:len(good)-1], good[1:], good + "x", good + good, "\x40" + good, strings.Repeat("x", 1000),
		"\x00\x02\x01\x05\x01k", "\x01\x00\x01\x05\x01k", "\x01\x02\x00", "\x01\x02\x01\x06\x01k", "\x01\x02\x01\x00\x01k", "\x01\x02\x01\x05\x00",
		"\x01\x40\x02\x01\x05\x01k", "\x40\x01\x02\x01\x05\x01k", "\x40\x41\x02\x01\x05\x01k", "\x01\x02\x09" + strings.Repeat("\x05\x01k", 9),
		"\x01\xc0\x00\x01\x00\x00\x00\x00\x01\x01\x05\x01k"} // of the number 2^40 + 1
	for i := range good {
		l = append(l, good[:i])
	}
	for _, origin := range []int{2, 3, 4, 63, 64} { // not its own, with the number that would be the next one
		l = append(l, bytesOf(ordinary(origin, 1)), bytesOf(ordinary(origin, 2)))
	}
	l = append(l, bytesOf(of(1, 2, sized(14)...)), bytesOf(of(1, 2, sized(51)...)), bytesOf(of(1, 2, sized(408)...))) // too long for 64
	for _, n := range []int{1, 3, 4, 16, 99, 1000, 1001, 1 << 32, last} {                                             // there already, and behind a gap
		l = append(l, bytesOf(of(1, n, sized(4)...)))
	}
	return l
}

// TestNoRounds is P16.2: data that is no round of the client, or doesn't fit, or isn't its next one, is taken, with OK, and comes to no log.
func TestNoRounds(t *testing.T) {
	for _, window := range []int{1, 2, 16} {
		x := heard(t, config(3, window, 64))
		x.sendRounds(t, 2, ordinary(2, 1))
		x.sendRounds(t, 1, ordinary(1, 1))
		for i, data := range noRounds() {
			x.send(t, 1, data)
			if n := len(x.s.Log()); n != 2 || x.p.end(1).taken != i+2 {
				t.Fatalf("%x: %d rounds, %d pieces taken", data, n, x.p.end(1).taken)
			}
			if l := x.tick(t); l[0].To != 1 || len(l) < 3 {
				t.Fatalf("%x: %x", data, l)
			}
		}
		x.sendRounds(t, 1, ordinary(1, 2))
		x.sendRounds(t, 3, ordinary(3, 1))
		x.drain(t)
	}
}

// TestNoRoundsTwice is P16.2: what was popped, and was no round, is gone: its number is used up, for the round too that would have been the next one.
func TestNoRoundsTwice(t *testing.T) {
	x := heard(t, config(1, 2, 64))
	x.hears(t, 1, api.Frame{Epoch: 1, Seq: 1, Data: "no round"})
	x.hears(t, 1, api.Frame{Epoch: 1, Seq: 1, Data: bytesOf(ordinary(1, 1))})
	x.hears(t, 1, api.Frame{Epoch: 1, Seq: 2, Data: bytesOf(ordinary(1, 2))})
	if n := len(x.s.Log()); n != 0 {
		t.Fatalf("%d rounds", n)
	}
	x.sendRounds(t, 1, ordinary(1, 1), ordinary(1, 2))
}

// TestLogOfOthers is P16.2: the number that a round needs is its own origin's, whatever others have.
func TestLogOfOthers(t *testing.T) {
	x := heard(t, config(64, 2, 64))
	x.sendRounds(t, 1, filled(1, 1, 4)...)
	x.sendRounds(t, 64, filled(64, 1, 3)...)
	x.send(t, 2, bytesOf(ordinary(2, 5)))
	x.send(t, 63, bytesOf(ordinary(63, 4)))
	x.send(t, 64, bytesOf(ordinary(64, 3)))
	x.send(t, 1, bytesOf(ordinary(1, 6)))
	if n := len(x.p.rounds); n != 7 {
		t.Fatalf("%d rounds", n)
	}
	x.sendRounds(t, 2, ordinary(2, 1))
	x.sendRounds(t, 63, ordinary(63, 1))
	x.sendRounds(t, 64, ordinary(64, 4))
	x.sendRounds(t, 1, ordinary(1, 5))
}

// TestPushPullAndLast is P16.2 and P16.3: Push, Pull and Last play no part behind New: rounds above Last come to the log, and epochs above it begin.
func TestPushPullAndLast(t *testing.T) {
	for _, c := range []api.Config{{Push: 1, Pull: 1, Last: 1}, {Push: 16, Pull: 1, Last: 2}, {Push: 1, Pull: 16, Last: last}} {
		c.Clients, c.Window, c.MTU = 2, 3, 64
		x := heard(t, c)
		x.sendRounds(t, 1, filled(1, 1, 20)...)
		x.drain(t)
		x.hears(t, 1, api.Frame{Epoch: 1000, Ack: 20})
		x.drain(t)
	}
}

// wrongBytes: bytes that are no datagram, and frame.Get's error of them; all of them have the epoch, where they have one.
func wrongBytes(epoch int) map[string]api.Errno {
	front := number(epoch)
	good := front + "\x01\x00\x06" + bytesOf(of(1, 1, api.Update{Key: "k", Kind: api.UDelete}))
	m := map[string]api.Errno{
		"": api.ErrSum, "x": api.ErrSum, "hello, hello": api.ErrSum, good: api.ErrSum, crc.Seal(good)[1:]: api.ErrSum, crc.Seal(good) + "x": api.ErrSum,
		crc.Seal(good[:len(good)-1]): api.ErrCut, crc.Seal(""): api.ErrCut, crc.Seal(front): api.ErrCut, crc.Seal(front + "\x01\x00"): api.ErrCut,
		crc.Seal(front + "\x40\x01\x00\x00"): api.ErrLong, crc.Seal(front + "\x01\x40\x00\x00"): api.ErrLong, crc.Seal(front + "\x01\x00\x40\x00"): api.ErrLong,
		crc.Seal(good + "x"): api.ErrMore, crc.Seal(crc.Seal(good)): api.ErrMore,
		crc.Seal("\x00\x01\x00\x00"): api.ErrRange, crc.Seal(number(last+1) + "\x01\x00\x00"): api.ErrRange, crc.Seal(front + number(maxSeq+1) + "\x00\x00"): api.ErrRange,
		crc.Seal(front + "\x01" + number(maxSeq+1) + "\x00"): api.ErrRange, crc.Seal(front + "\x01\x00" + number(1401) + strings.Repeat("x", 1401)): api.ErrRange,
		crc.Seal(front + "\x00\x00\x01x"): api.ErrForm, crc.Seal(front + "\x00" + good[len(front)+1:]): api.ErrForm,
	}
	b := crc.Seal(good)
	for i := range 8 * len(b) {
		spoilt := []byte(b)
		spoilt[i/8] ^= 1 << (i % 8)
		m[string(spoilt)] = api.ErrSum
	}
	for i := range len(b) {
		m[b[:i]] = api.ErrSum
	}
	return m
}

// stood is a sequencer that was told this and that: client 1 of the epoch 5, client 2 of the epoch 3, client 3 never heard; there are rounds that weren't fed yet.
func stood(t *testing.T, mtu int) *pair {
	t.Helper()
	x := begun(t, config(3, 2, mtu))
	x.hears(t, 1, api.Frame{Epoch: 5})
	x.sendRounds(t, 1, filled(1, 1, 3)...)
	x.tick(t)
	x.hears(t, 2, api.Frame{Epoch: 3})
	x.ack(t, 1, 1)
	x.sendRounds(t, 2, filled(2, 1, 2)...)
	return x
}

// TestWrongBytes is P16.2: bytes that are no datagram are answered with frame.Get's error, whichever client they come from and whatever their epoch, and change nothing.
func TestWrongBytes(t *testing.T) {
	for _, epoch := range []int{1, 2, 3, 4, 5, 6, 9, last} {
		x := stood(t, 64)
		for from := 1; from <= 3; from++ {
			for b, want := range wrongBytes(epoch) {
				if _, e := frame.Get(b); e != want {
					t.Fatalf("the test's own fault: %x: %d, not %d", b, e, want)
				}
				x.refuses(t, from, b, want)
			}
			x.tick(t)
			x.unchanged(t)
		}
		x.drain(t)
		x.unchanged(t)
	}
}

// TestWrongFrom is P16.2: what comes from no client is answered with ErrNone, good, wrong or late, and changes nothing.
func TestWrongFrom(t *testing.T) {
	x := stood(t, 64)
	good := []string{datagram(api.Frame{Epoch: 1}), datagram(api.Frame{Epoch: 5, Seq: 4, Ack: 1, Data: bytesOf(ordinary(1, 4))}), datagram(api.Frame{Epoch: last, Seq: 1, Data: bytesOf(ordinary(3, 1))})}
	for _, from := range append(beyond(), 4, 5) {
		for _, b := range good {
			x.refuses(t, from, b, api.ErrNone)
		}
		for b := range wrongBytes(5) {
			if e := x.s.Hear(from, b); e != api.ErrNone {
				t.Fatalf("Hear %d %x: %d", from, b, e)
			}
		}
		x.unchanged(t)
	}
	x.tick(t)
	x.drain(t)
	x.unchanged(t)
	for _, clients := range []int{1, 2, 63, 64} {
		x := heard(t, config(clients, 2, 64))
		for _, from := range append(beyond(), clients+1, clients+2) {
			x.refuses(t, from, good[0], api.ErrNone)
			x.refuses(t, from, "", api.ErrNone)
		}
	}
}

// TestElderEpochs is P16.2: frames of elder epochs are ErrStale, whatever else they carry, and change nothing.
func TestElderEpochs(t *testing.T) {
	x := stood(t, 64)
	for range 2 {
		for from, epoch := range map[int]int{1: 5, 2: 3} {
			next := x.p.lastOf(from) + 1
			for elder := 1; elder < epoch; elder++ {
				for seq := range 6 {
					for ack := range 6 {
						f := api.Frame{Epoch: elder, Seq: seq, Ack: ack}
						if seq > 0 {
							f.Data = bytesOf(ordinary(from, next))
						}
						x.refuses(t, from, datagram(f), api.ErrStale)
					}
				}
			}
		}
		x.tick(t)
		x.unchanged(t)
	}
	x.hears(t, 1, api.Frame{Epoch: last})
	for _, epoch := range []int{1, 5, 1 << 20, 1 << 39, last - 1} {
		x.refuses(t, 1, datagram(api.Frame{Epoch: epoch, Seq: 1, Data: bytesOf(ordinary(1, 4))}), api.ErrStale)
	}
	x.hears(t, 3, api.Frame{Epoch: 1}) // the epoch 0 is below each
	x.hears(t, 2, api.Frame{Epoch: 3}) // the others' epochs are their own
	x.drain(t)
	x.unchanged(t)
}

// TestAcksOfUnsent is P16.2: acknowledgements of what wasn't sent acknowledge nothing; those of what was acknowledged change nothing.
func TestAcksOfUnsent(t *testing.T) {
	for _, window := range []int{1, 2, 16} {
		x := heard(t, config(2, window, 64))
		x.sendRounds(t, 1, filled(1, 1, 20)...)
		for x.s.Fed(2) < 20 || x.s.Unacked(2) > 0 {
			x.tick(t)
			sent, unacked := x.s.Fed(2), x.s.Unacked(2)
			for _, ack := range []int{sent + 1, sent + 2, sent + 16, 1000, 1 << 32, 1<<32 + sent, maxSeq} {
				x.hears(t, 2, api.Frame{Epoch: 1, Ack: ack})
			}
			for ack := range sent - unacked + 1 {
				x.hears(t, 2, api.Frame{Epoch: 1, Ack: ack})
			}
			if x.s.Fed(2) != sent || x.s.Unacked(2) != unacked {
				t.Fatalf("Fed %d, Unacked %d, not %d, %d", x.s.Fed(2), x.s.Unacked(2), sent, unacked)
			}
			x.ack(t, 2, 1)
		}
	}
}

// TestAckWithRound is P16.2: a frame's acknowledgement counts beside its piece, whether that is taken or not.
func TestAckWithRound(t *testing.T) {
	x := heard(t, config(2, 4, 64))
	x.sendRounds(t, 2, filled(2, 1, 8)...)
	x.tick(t)
	x.hears(t, 1, api.Frame{Epoch: 1, Seq: 1, Ack: 1, Data: bytesOf(ordinary(1, 1))})
	x.hears(t, 1, api.Frame{Epoch: 1, Seq: 1, Ack: 2, Data: bytesOf(ordinary(1, 1))}) // it comes twice
	x.hears(t, 1, api.Frame{Epoch: 1, Seq: 9, Ack: 3, Data: bytesOf(ordinary(1, 9))}) // too early
	x.hears(t, 1, api.Frame{Epoch: 1, Seq: 2, Ack: 4, Data: "no round"})
	if n := x.s.Unacked(1); n != 0 || len(x.s.Log()) != 9 {
		t.Fatalf("Unacked %d, %d rounds", n, len(x.s.Log()))
	}
	x.drain(t)
}

// TestManyClients is P16.3: packets go out client by client, of each in the order of their numbers.
func TestManyClients(t *testing.T) {
	for _, window := range []int{1, 3, 16} {
		x := begun(t, config(64, window, 64))
		for client := 64; client >= 1; client -= 2 { // the last one first, and each second one alone
			x.hears(t, client, api.Frame{Epoch: client})
			x.sendRounds(t, client, ordinary(client, 1))
		}
		l := x.tick(t)
		if len(l) != 32*window {
			t.Fatalf("window %d: %d packets", window, len(l))
		}
		for i, p := range l {
			f, e := frame.Get(p.Bytes)
			if client := 2 * (i/window + 1); p.From != 0 || p.To != client || e != api.OK || f.Epoch != client || f.Seq != i%window+1 || f.Ack != 1 {
				t.Fatalf("window %d: the packet %d: from %d to %d: %+v %d", window, i, p.From, p.To, f, e)
			}
		}
		x.drain(t)
	}
}

// TestGreatNumbers is P16.3: no packet is left out, or has more than the mtu, where the epoch has the most bytes, and a round too.
func TestGreatNumbers(t *testing.T) {
	for _, mtu := range []int{64, 100, 459, 1400} {
		x := begun(t, config(64, 16, mtu))
		for client := 1; client <= 64; client++ {
			x.hears(t, client, api.Frame{Epoch: last})
		}
		for n := range 100 {
			x.sendRounds(t, 64, of(64, n+1, sized(min(mtu-51, 408))...))
		}
		for range 8 {
			for _, p := range x.tick(t) {
				if len(p.Bytes) > mtu {
					t.Fatalf("mtu %d: %d bytes", mtu, len(p.Bytes))
				}
			}
			x.ackAll(t)
		}
		if n := x.s.Fed(64); n != 100 {
			t.Fatalf("mtu %d: Fed %d", mtu, n)
		}
	}
}

// TestManyRounds is P16.2 and P16.3: more rounds than a byte or two can count.
func TestManyRounds(t *testing.T) {
	const many = 1<<16 + 300
	s := made(t, config(2, 16, 64))
	for n := 1; n <= many; n++ {
		s.Hear(1, datagram(api.Frame{Epoch: 1, Seq: n, Data: bytesOf(ordinary(1, n))}))
	}
	if !slices.EqualFunc(s.Log(), filled(1, 1, many), round.Same) {
		t.Fatalf("%d rounds", len(s.Log()))
	}
	for at := 0; at < many; at += 16 {
		s.Hear(2, datagram(api.Frame{Epoch: 1, Ack: at}))
		l := s.Tick()
		if n := min(at+16, many); s.Fed(2) != n || s.Unacked(2) != n-at || s.Fed(1) != 16 {
			t.Fatalf("at %d: Fed %d, Unacked %d", at, s.Fed(2), s.Unacked(2))
		}
		for i, p := range l[16:] {
			if p.To != 2 || p.Bytes != datagram(api.Frame{Epoch: 1, Seq: at + i + 1, Data: bytesOf(ordinary(1, at+i+1))}) {
				t.Fatalf("at %d: the packet %d: %+v", at, i, p)
			}
		}
	}
}

// spoil changes a list of rounds, and all of their updates, spare room too.
func spoil(l []api.Round) {
	l = l[:cap(l)]
	for i := range l {
		for k := range l[i].Updates[:cap(l[i].Updates)] {
			l[i].Updates[:cap(l[i].Updates)][k] = api.Update{Key: "spoilt", Kind: api.USet, N: 9}
		}
		l[i] = of(9, 9)
	}
}

// TestAnswersAreTheCallers: what the caller does with what Log and Tick told shows nowhere.
func TestAnswersAreTheCallers(t *testing.T) {
	x := stood(t, 64)
	for range 4 {
		one, other := x.s.Log(), x.s.Log()
		spoil(one[1:2:2])
		if !slices.EqualFunc(one[2:], other[2:], round.Same) {
			t.Fatalf("two rounds share a list: %v", one)
		}
		spoil(one)
		if !slices.EqualFunc(other, x.p.rounds, round.Same) {
			t.Fatalf("two answers share a list: %v", other)
		}
		x.holds(t, "spoilt")
		l := x.tick(t)
		same := x.tick(t)
		kept := slices.Clone(same)
		for i := range l[:cap(l)] {
			l[:cap(l)][i] = api.Packet{From: 9, To: 9, Bytes: "spoilt"}
		}
		if !slices.Equal(same, kept) {
			t.Fatalf("two answers share a list: %v", same)
		}
		x.tick(t)
		x.sendRounds(t, 1, ordinary(1, x.p.lastOf(1)+1))
		x.ackAll(t)
	}
	x.drain(t)
}

// TestHandedInIsNotKept: what becomes of the memory of a datagram shows nowhere, and Hear leaves it as it is.
func TestHandedInIsNotKept(t *testing.T) {
	x := heard(t, config(2, 4, 64))
	for n := 1; n <= 3; n++ {
		f := api.Frame{Epoch: 1, Seq: n, Data: bytesOf(of(1, n, api.Update{Key: "key", Kind: api.UText, S: "text"}))}
		b := []byte(datagram(f))
		if e := x.s.Hear(1, unsafe.String(&b[0], len(b))); e != api.OK || string(b) != datagram(f) {
			t.Fatalf("Hear: %d, %x", e, b)
		}
		x.p.hear(1, f)
		clear(b)
		x.holds(t, "behind a change of the datagram")
		if got, want := x.s.Tick(), x.p.tick(); !slices.Equal(got, want) {
			t.Fatalf("Tick: %x, not %x", got, want)
		}
	}
}

// TestTwoSequencers: two show nothing of each other.
func TestTwoSequencers(t *testing.T) {
	one, other := stood(t, 64), begun(t, config(3, 16, 100))
	both := func(name string) {
		t.Helper()
		one.holds(t, name)
		other.holds(t, name)
	}
	both("begun")
	other.sendRounds(t, 3, filled(3, 1, 4)...)
	both("the other one has rounds")
	one.tick(t)
	both("the one ticked")
	other.hears(t, 1, api.Frame{Epoch: 2})
	other.refuses(t, 1, datagram(api.Frame{Epoch: 1}), api.ErrStale)
	one.refuses(t, 1, datagram(api.Frame{Epoch: 2}), api.ErrStale)
	both("epochs")
	spoil(other.s.Log())
	other.drain(t)
	both("the other one is drained")
	one.drain(t)
	both("both are drained")
	if one.s.Fed(1) != 5 || other.s.Fed(1) != 4 {
		t.Fatalf("Fed %d and %d", one.s.Fed(1), other.s.Fed(1))
	}
}

// TestAskedAgain is P16.3: Log, Fed and Unacked tell the same, however often they are asked, and change nothing of what is sent.
func TestAskedAgain(t *testing.T) {
	x := stood(t, 64)
	for range 6 {
		for range 5 {
			x.holds(t, "again")
		}
		x.unchanged(t)
		x.tick(t)
		x.ack(t, 2, min(x.s.Unacked(2), 1))
	}
}
