package node

import (
	"math"
	"slices"
	"strings"
	"testing"
	"unsafe"

	"chapbook/api"
	"chapbook/crc"
	"chapbook/frame"
)

// bound is of a configuration's number: the least and the greatest that it may be.
type bound struct {
	least, greatest int
	of              func(*api.Config) *int
}

func bounds() []bound {
	return []bound{
		{1, 64, func(c *api.Config) *int { return &c.Clients }},
		{1, 16, func(c *api.Config) *int { return &c.Window }},
		{1, 16, func(c *api.Config) *int { return &c.Push }},
		{1, 16, func(c *api.Config) *int { return &c.Pull }},
		{64, 1400, func(c *api.Config) *int { return &c.MTU }},
		{1, 1 << 40, func(c *api.Config) *int { return &c.Last }},
	}
}

// far are numbers that are far from all that may be, with such as would be near, if some of their bits were lost.
func far() []int {
	return []int{math.MaxInt, math.MaxInt - 1, 1<<62 + 1, 1<<32 + 1, 1<<32 + 2, 1<<16 + 1, 1<<8 + 1, -1, -2, -64, -255, 1 - 1<<32, 2 - 1<<32, math.MinInt + 2, math.MinInt + 1, math.MinInt}
}

// answersNew looks what New answers.
func answersNew(t *testing.T, c api.Config, origin int, want api.Errno) {
	t.Helper()
	if n, e := New(c, origin); e != want || (n != nil) != (want == api.OK) {
		t.Fatalf("New %+v, %d: %v %d, not %d", c, origin, n, e, want)
	}
}

// TestNewOfConfigurations is P18.1: each of the six numbers, within its bounds and outside; of one that may not be, with any origin, layer 16's error comes first.
func TestNewOfConfigurations(t *testing.T) {
	answersNew(t, api.Config{}, 1, api.ErrRange)
	answersNew(t, api.Config{}, 0, api.ErrRange)
	for _, b := range bounds() {
		c := usual()
		for _, n := range []int{b.least, b.least + 1, b.greatest - 1, b.greatest} {
			*b.of(&c) = n
			answersNew(t, c, 1, api.OK)
			x := begun(t, c, 1)
			x.pushes(t, 1)
			x.tick(t)
		}
		for _, n := range append(far(), b.least-1, b.least-2, b.greatest+1, b.greatest+2, 0) {
			if n >= b.least && n <= b.greatest {
				continue
			}
			*b.of(&c) = n
			for _, origin := range append(far(), 0, 1, 2, 3, 4, 64, 65) {
				answersNew(t, c, origin, api.ErrRange)
			}
		}
	}
}

// TestNewOfOrigins is P18.1: with each number of clients, each origin, and those about.
func TestNewOfOrigins(t *testing.T) {
	for clients := 1; clients <= 64; clients++ {
		c := usual()
		c.Clients = clients
		for origin := 1; origin <= clients; origin++ {
			x := begun(t, c, origin)
			x.pushes(t, 1)
			if l := x.tick(t); l[0].From != origin {
				t.Fatalf("a packet from %d, not %d", l[0].From, origin)
			}
		}
		for _, origin := range append(far(), 0, clients+1, clients+2, 65) {
			answersNew(t, c, origin, api.ErrNone)
		}
	}
}

// TestNew is P18.1 and P18.5: a new node knows nothing, and is of the epoch 1.
func TestNew(t *testing.T) {
	x := begun(t, usual(), 3)
	if l := x.n.Look(); l != (api.Look{Epoch: 1}) {
		t.Fatalf("Look %+v", l)
	}
	if len(x.n.Known()) != 0 || len(x.n.Journal()) != 0 || !x.n.Confirmed() || x.n.Len() != 0 || x.n.Read("a") != (api.Value{}) {
		t.Fatalf("Known %v, Journal %v, Confirmed %t, Len %d", x.n.Known(), x.n.Journal(), x.n.Confirmed(), x.n.Len())
	}
	x.pulls(t, 0)
	x.refusesPush(t, api.ErrNone)
}

// TestDocumentExample is P18.1 to P18.5: the chapter's, with all bytes written out.
func TestDocumentExample(t *testing.T) {
	n := made(t, api.Config{Clients: 3, Window: 2, Push: 2, Pull: 2, MTU: 64, Last: 5}, 1)
	if e := n.Update(del("k")); e != api.OK {
		t.Fatalf("Update: %d", e)
	}
	if number, e := n.Push(); number != 1 || e != api.OK {
		t.Fatalf("Push: %d %d", number, e)
	}
	one := []api.Packet{{From: 1, To: 0, Bytes: "\x01\x01\x00\x06\x01\x01\x01\x05\x01k\x80\xf9\x45\x73"}}
	if l := n.Tick(); !slices.Equal(l, one) {
		t.Fatalf("Tick: %x", l)
	}
	if l := n.Look(); l != (api.Look{Epoch: 1, Pending: 1, Unacked: 1}) {
		t.Fatalf("Look %+v", l)
	}
	if e := n.Reset(); e != api.OK || n.Look() != (api.Look{Epoch: 2, Pending: 1}) {
		t.Fatalf("Reset: %d %+v", e, n.Look())
	}
	again := []api.Packet{{From: 1, To: 0, Bytes: "\x02\x01\x00\x06\x01\x01\x01\x05\x01k\x9e\x03\x53\x2b"}}
	if l := n.Tick(); !slices.Equal(l, again) {
		t.Fatalf("Tick, behind Reset: %x", l)
	}
	if e := n.Hear(crc.Seal("\x02\x01\x01\x06\x01\x01\x01\x05\x01k")); e != api.OK || n.Look() != (api.Look{Epoch: 2, Pending: 1, Came: 1}) {
		t.Fatalf("Hear: %d %+v", e, n.Look())
	}
	if k := n.Pull(); k != 1 || !n.Confirmed() || n.Look() != (api.Look{Epoch: 2, Known: 1}) {
		t.Fatalf("Pull: %d %+v", k, n.Look())
	}
	if l := n.Tick(); !slices.Equal(l, []api.Packet{{From: 1, To: 0, Bytes: crc.Seal("\x02\x00\x01\x00")}}) {
		t.Fatalf("Tick, at the end: %x", l)
	}
}

// TestWhatIsRead is P18.1: the known rounds, then the pending ones, then the open updates, whichever came first; what came is read just behind a Pull; all values are written out.
func TestWhatIsRead(t *testing.T) {
	x := begun(t, usual(), 2)
	text := func(want string) {
		t.Helper()
		if v := x.n.Read("t"); v != (api.Value{Kind: api.VText, S: want}) {
			t.Fatalf("%+v, not %q", v, want)
		}
		if n := x.n.Len(); n != 1 {
			t.Fatalf("Len %d", n)
		}
	}
	x.updates(t, app("t", "p"))
	x.pushes(t, 1)
	x.updates(t, app("t", "o"))
	text("po")
	x.come(t, of(1, 1, app("t", "k")), of(3, 1, app("t", "l")), of(2, 1, app("t", "p")))
	text("po")
	x.pulls(t, 3)
	text("klpo")
	x.come(t, of(1, 2, put("t", "-")))
	x.pulls(t, 1)
	text("-o")
	x.pushes(t, 1)
	x.updates(t, app("t", "q"))
	text("-oq")
	x.resets(t)
	text("po")
}

// grown is a node of which many more rounds than the window are pushed, its own ones come back and pulled, and nothing of them is acknowledged.
func grown(t *testing.T, window, many int) *pair {
	t.Helper()
	c := usual()
	c.Window = window
	x := begun(t, c, 2)
	for n := 1; n <= many; n++ {
		x.pushes(t, 1)
		x.come(t, ordinary(2, n))
		x.pulls(t, 1)
	}
	return x
}

// TestWindow is P18.2: at each window, with more rounds pushed than that, the first ones are sent; behind each acknowledgement the next ones, by the next Tick and not before.
func TestWindow(t *testing.T) {
	const many = 40
	for window := 1; window <= 16; window++ {
		for step := 1; step <= window; step++ {
			x := grown(t, window, many)
			x.tick(t)
			for at := window; at < many; at = min(at+step, many) {
				x.ack(t, step)
				if n := x.n.Look().Unacked; n != window-step {
					t.Fatalf("window %d: acknowledged %d: Unacked %d", window, step, n)
				}
				l, most := x.tick(t), min(window, many-(at+step-window))
				f, _ := frame.Get(l[0].Bytes)
				if len(l) != most || f.Seq != at+step-window+1 || f.Data != bytesOf(ordinary(2, f.Seq)) || x.n.Look().Unacked != most {
					t.Fatalf("window %d, behind %d: %d packets, the first one %+v, Unacked %d", window, at, len(l), f, x.n.Look().Unacked)
				}
			}
			x.ack(t, x.n.Look().Unacked)
			if f, _ := frame.Get(x.tick(t)[0].Bytes); f != (api.Frame{Epoch: 1, Ack: many}) {
				t.Fatalf("window %d: nothing is left to send: %+v", window, f)
			}
		}
	}
}

// TestWindowByReset is P18.2 and P18.4: the same behind a Reset, with as many rounds in the journal.
func TestWindowByReset(t *testing.T) {
	for _, window := range []int{1, 2, 3, 15, 16} {
		x := grown(t, window, 35)
		for range 3 {
			x.resets(t)
			for at := 0; at < 35; at += window {
				for i, p := range x.tick(t) {
					if want := (api.Frame{Epoch: x.p.epoch, Seq: at + i + 1, Data: bytesOf(ordinary(2, at+i+1))}); p.Bytes != datagram(want) {
						t.Fatalf("window %d: at %d: %x, not %+v", window, at+i, p.Bytes, want)
					}
				}
				x.ack(t, x.n.Look().Unacked)
			}
		}
	}
}

// TestPushedBehindTicks is P18.2: what is pushed behind a Tick goes by the next one, behind what went.
func TestPushedBehindTicks(t *testing.T) {
	c := usual()
	c.Window, c.Push = 5, 16
	x := begun(t, c, 1)
	for n := 1; n <= 7; n++ {
		x.pushes(t, 1)
		if l := x.tick(t); len(l) != min(n, 5) {
			t.Fatalf("%d pushed: %d packets", n, len(l))
		}
	}
	x.ack(t, 1)
	x.pushes(t, 2)
	if f, _ := frame.Get(x.tick(t)[4].Bytes); f.Seq != 6 {
		t.Fatalf("%+v", f)
	}
}

// TestTickAgain is P18.2: a Tick behind a Tick, with nothing between, sends the same; with nothing pushed, one packet without data.
func TestTickAgain(t *testing.T) {
	for _, window := range []int{1, 2, 16} {
		c := usual()
		c.Window = window
		x := begun(t, c, 1)
		again := func(many int) {
			t.Helper()
			l := x.tick(t)
			if len(l) != many {
				t.Fatalf("window %d: %d packets, not %d", window, len(l), many)
			}
			for range 3 {
				if again := x.tick(t); !slices.Equal(l, again) {
					t.Fatalf("again: %x, not %x", again, l)
				}
			}
			x.holds(t, "Tick again")
		}
		again(1)
		if f, _ := frame.Get(x.tick(t)[0].Bytes); f != (api.Frame{Epoch: 1}) {
			t.Fatalf("with nothing pushed: %+v", f)
		}
		x.updates(t, del("k")) // what is open isn't sent
		again(1)
		x.pushes(t, 3)
		again(min(window, 3))
		x.come(t, ordinary(3, 1), ordinary(1, 2))
		again(min(window, 3))
		x.pulls(t, 1)
		again(min(window, 3))
		x.ack(t, 1)
		again(min(window, 2))
		x.resets(t)
		again(min(window, 3))
	}
}

// TestAckOfTicks is P18.2 and P18.3: what goes acknowledges the pieces that were taken, pulled or not.
func TestAckOfTicks(t *testing.T) {
	x := begun(t, usual(), 1)
	for n := 1; n <= 9; n++ {
		x.come(t, ordinary(2, n))
		if f, _ := frame.Get(x.tick(t)[0].Bytes); f.Ack != n {
			t.Fatalf("%d came: %+v", n, f)
		}
		if n%3 == 0 {
			x.pulls(t, 3)
		}
	}
}

// TestPulls is P18.3: at each Pull's room, as many pieces as that come, and more; these aren't taken, till a Pull makes room.
func TestPulls(t *testing.T) {
	for pull := 1; pull <= 16; pull++ {
		for came := 0; came <= pull+3; came++ {
			c := usual()
			c.Pull = pull
			x := begun(t, c, 1)
			for round := range 3 {
				first := x.p.taken + 1
				for n := first; n < first+came; n++ {
					x.hear(t, api.Frame{Epoch: 1, Seq: n, Data: bytesOf(ordinary(2+n%2, n))})
				}
				if n := x.n.Look().Came; n != min(came, pull) {
					t.Fatalf("Pull %d: %d wait of %d", pull, n, came)
				}
				x.pulls(t, min(came, pull))
				x.pulls(t, 0)
				if n := x.n.Look().Known; n != min(came, pull)*(round+1) {
					t.Fatalf("Pull %d: %d known", pull, n)
				}
			}
		}
	}
}

// TestPending is P18.1: at each Push, as many rounds as that are pending, then none more, till one of them is pulled.
func TestPending(t *testing.T) {
	for push := 1; push <= 16; push++ {
		c := usual()
		c.Push = push
		x := begun(t, c, 2)
		x.pushes(t, push)
		x.updates(t, del("k"))
		for n := 1; n <= 5; n++ {
			x.refusesPush(t, api.ErrFull)
			x.come(t, ordinary(1, n))
			x.pulls(t, 1) // others' rounds make no room
			x.refusesPush(t, api.ErrFull)
			x.come(t, x.p.pending[0])
			x.refusesPush(t, api.ErrFull)
			x.pulls(t, 1)
			x.pushes(t, 1)
			x.updates(t, del("k"))
		}
		x.refusesPush(t, api.ErrFull)
	}
}

// sized is updates whose fields have so many bytes in all, from 4 to 408, as few as can be.
func sized(many int) []api.Update {
	var l []api.Update
	for left := (many + 50) / 51; left > 0; left-- {
		bytes := many / left // of this one; its key and its piece have three bytes less
		key := max(1, bytes-3-32)
		l = append(l, app(strings.Repeat("k", key), strings.Repeat("s", bytes-3-key)))
		many -= bytes
	}
	return l
}

// TestMTU is P18.1 and P18.2: at each mtu, rounds that just fit are sent, by packets of at most so many bytes, also where the epoch is greatest; what just doesn't fit is refused.
func TestMTU(t *testing.T) {
	for mtu := 64; mtu <= 1400; mtu++ {
		if mtu > 130 && mtu < 1398 && mtu%25 > 0 && (mtu < 456 || mtu > 461) {
			continue
		}
		fits := min(mtu-40-11, 408) // 11: of the origin, the number, and how many updates there are
		x := begun(t, api.Config{Clients: 64, Window: 3, Push: 3, Pull: 1, MTU: mtu, Last: maxLast}, 64)
		l := sized(fits)
		for range 2 {
			x.updates(t, l...)
			if fits < 408 {
				x.refusesUpdate(t, app("k", ""), api.ErrFull)
			}
			x.pushes(t, 1)
		}
		if fits < 51 {
			x.refusesUpdate(t, sized(fits + 1)[0], api.ErrLong)
		}
		x.tick(t)
		if e := x.reset(t); e != api.OK {
			t.Fatalf("Reset: %d", e)
		}
		x.leap(maxLast)
		if sent := x.tick(t); len(sent) != 2 {
			t.Fatalf("mtu %d: %d packets, in the greatest epoch", mtu, len(sent))
		}
	}
}

// leap: it is in a fresh epoch, as if it had been reset that often: no test can reset it so many times.
func (x *pair) leap(epoch int) {
	for _, n := range []*Node{x.n, x.twin} {
		n.begin(epoch - 1)
		n.Reset()
	}
	x.p.epoch = epoch - 1
	x.p.reset()
}

// TestGreatNumbers is P18.2: no packet is left out, or has more than the mtu, where the numbers of pieces and their acknowledgement are such as a node comes to.
func TestGreatNumbers(t *testing.T) {
	for _, mtu := range []int{64, 1400} {
		x := begun(t, api.Config{Clients: 64, Window: 1, Push: 1, Pull: 16, MTU: mtu, Last: maxLast}, 64)
		x.leap(maxLast - 1)
		for n := range 300 {
			x.updates(t, sized(min(mtu-51, 408))...)
			if e := x.push(t); e != api.OK {
				t.Fatalf("Push: %d", e)
			}
			if f, _ := frame.Get(x.tick(t)[0].Bytes); f.Seq != n+1 {
				t.Fatalf("%+v", f)
			}
			x.ack(t, 1)
			x.come(t, x.p.pending[0])
			x.pull(t)
		}
	}
}

// TestFullJournal is P18.1: behind the round Last none is pushed, whatever becomes known, and behind a Reset neither.
func TestFullJournal(t *testing.T) {
	for last := 1; last <= 6; last++ {
		c := usual()
		c.Last, c.Push = last, 16
		x := begun(t, c, 1)
		x.pushes(t, last)
		x.refusesPush(t, api.ErrNone)
		x.updates(t, add("a", 1))
		x.refusesPush(t, api.ErrExhausted)
		x.tick(t)
		for n := range last {
			x.come(t, ordinary(1, n+1))
			x.pulls(t, 1)
			x.refusesPush(t, api.ErrExhausted)
		}
		for epoch := 2; epoch <= last; epoch++ {
			x.resets(t)
			x.updates(t, add("a", 1))
			x.refusesPush(t, api.ErrExhausted)
		}
		x.refusesReset(t)
		x.updates(t, add("a", 1)) // and it is read
		x.tick(t)
	}
	c := usual()
	c.Last, c.Push = 1, 1
	x := begun(t, c, 1)
	x.pushes(t, 1)
	x.updates(t, add("a", 1))
	x.refusesPush(t, api.ErrFull) // ahead of ErrExhausted
}

// TestResetAtLast is P18.4: up to the epoch Last, and no further.
func TestResetAtLast(t *testing.T) {
	for last := 1; last <= 20; last++ {
		c := usual()
		c.Last = last
		x := begun(t, c, 1)
		for epoch := 1; epoch < last; epoch++ {
			x.resets(t)
		}
		for range 2 {
			x.refusesReset(t)
			x.tick(t)
			x.come(t, ordinary(2, x.p.taken+1))
			x.refusesReset(t)
			x.pulls(t, 1)
		}
	}
	for _, last := range []int{2, 3, 1 << 8, 1 << 16, 1 << 31, 1 << 32, 1<<32 + 1, maxLast - 1, maxLast} {
		c := usual()
		c.Last = last
		x := begun(t, c, 1)
		x.pushes(t, 1)
		x.leap(last - 1)
		x.tick(t)
		x.resets(t)
		if f, _ := frame.Get(x.tick(t)[0].Bytes); f.Epoch != last || f.Seq != 1 {
			t.Fatalf("Last %d: %+v", last, f)
		}
		x.refusesReset(t)
		x.refusesReset(t)
	}
}

// TestResetAheadOfAnything is P18.4.
func TestResetAheadOfAnything(t *testing.T) {
	x := begun(t, usual(), 2)
	for epoch := 2; epoch <= 5; epoch++ {
		x.resets(t)
		x.refusesPush(t, api.ErrNone)
		x.pulls(t, 0)
	}
	x.pushes(t, 1)
	x.come(t, ordinary(2, 1))
	x.pulls(t, 1)
	if f, _ := frame.Get(x.tick(t)[0].Bytes); f != (api.Frame{Epoch: 5, Seq: 1, Ack: 1, Data: bytesOf(ordinary(2, 1))}) {
		t.Fatalf("%+v", f)
	}
}

// stood is a node that was told this and that: in the epoch 3, of its rounds one is known and acknowledged, two are pending, and sent; others are known, two updates are open, two pieces wait.
func stood(t *testing.T, c api.Config, origin int) *pair {
	t.Helper()
	x := begun(t, c, origin)
	other := origin%c.Clients + 1
	x.resets(t)
	x.resets(t)
	x.pushes(t, 1)
	x.tick(t)
	x.ack(t, 1)
	x.come(t, ordinary(other, 1), ordinary(origin, 1), ordinary(other, 2))
	x.pulls(t, 3)
	x.pushes(t, 2)
	x.tick(t)
	x.updates(t, add("a", 1), app("u", "u"))
	x.come(t, ordinary(other, 3), ordinary(origin, 2))
	if l := x.n.Look(); l != (api.Look{Epoch: 3, Known: 3, Pending: 2, Open: 2, Came: 2, Unacked: 2}) {
		t.Fatalf("Look %+v", l)
	}
	return x
}

// TestReset is P18.4: what is acknowledged, known, open or waiting is lost, and the journal isn't: its rounds are pending, go again from the first one on, and come to be known again.
func TestReset(t *testing.T) {
	for _, window := range []int{2, 3, 16} {
		c := usual()
		c.Window = window
		x := stood(t, c, 2)
		x.resets(t)
		x.resets(t)
		if l := x.tick(t); len(l) != min(window, 3) {
			t.Fatalf("%d packets", len(l))
		}
		x.refusesHear(t, datagram(api.Frame{Epoch: 3, Seq: 6, Ack: 3, Data: bytesOf(ordinary(3, 4))}), api.ErrStale)
		x.updates(t, del("k"))
		x.refusesPush(t, api.ErrFull)
		x.come(t, ordinary(3, 1), ordinary(2, 1), ordinary(3, 2))
		x.pulls(t, 3)
		x.pushes(t, 1)
		x.ack(t, 2)
		if f, _ := frame.Get(x.tick(t)[0].Bytes); f.Seq != 3 || f.Epoch != 5 || f.Data != bytesOf(ordinary(2, 3)) {
			t.Fatalf("%+v", f)
		}
		x.come(t, ordinary(2, 2), ordinary(2, 3))
		x.pulls(t, 2)
		if n := x.n.Look().Pending; n != 1 {
			t.Fatalf("%d pending", n)
		}
	}
}

// TestResetAtEachPoint is P18.4: a Reset behind each of some calls.
func TestResetAtEachPoint(t *testing.T) {
	for at := range 12 {
		x := begun(t, usual(), 1)
		for i, call := range []func(){
			func() {},
			func() { x.updates(t, add("a", 3)) },
			func() { x.pushes(t, 1) },
			func() { x.tick(t) },
			func() { x.hear(t, api.Frame{Epoch: x.p.epoch, Ack: 1}) },
			func() { x.come(t, ordinary(2, 1)) },
			func() { x.come(t, of(1, 1, add("a", 3))) },
			func() { x.pull(t) },
			func() { x.updates(t, add("a", 1)) },
			func() { x.pull(t) },
			func() { x.push(t) },
			func() { x.tick(t) },
		} {
			call()
			if i == at {
				x.resets(t)
			}
		}
		x.unchanged(t, "a Reset among calls")
	}
}

// wrongBytes: bytes that are no datagram, and frame.Get's error of them; all of them have the epoch, where they have one.
func wrongBytes(epoch int) map[string]api.Errno {
	front := number(epoch)
	good := front + "\x06\x00\x06" + bytesOf(of(1, 1, del("k")))
	m := map[string]api.Errno{
		"": api.ErrSum, "x": api.ErrSum, "hello, hello": api.ErrSum, good: api.ErrSum, crc.Seal(good)[1:]: api.ErrSum, crc.Seal(good) + "x": api.ErrSum,
		crc.Seal(good[:len(good)-1]): api.ErrCut, crc.Seal(""): api.ErrCut, crc.Seal(front): api.ErrCut, crc.Seal(front + "\x01\x00"): api.ErrCut,
		crc.Seal(front + "\x40\x01\x00\x00"): api.ErrLong, crc.Seal(front + "\x01\x40\x00\x00"): api.ErrLong, crc.Seal(front + "\x01\x00\x40\x00"): api.ErrLong,
		crc.Seal(good + "x"): api.ErrMore, crc.Seal(crc.Seal(good)): api.ErrMore,
		crc.Seal("\x00\x01\x00\x00"): api.ErrRange, crc.Seal(number(maxLast+1) + "\x01\x00\x00"): api.ErrRange, crc.Seal(front + number(maxSeq+1) + "\x00\x00"): api.ErrRange,
		crc.Seal(front + "\x01" + number(maxSeq+1) + "\x00"): api.ErrRange, crc.Seal(front + "\x01\x00" + number(1401) + strings.Repeat("x", 1401)): api.ErrRange,
		crc.Seal(front + "\x00\x00\x01x"): api.ErrForm, crc.Seal(front + "\x00" + good[len(front)+1:]): api.ErrForm,
	}
	b := crc.Seal(good)
	for i := range 8 * len(b) {
		spoilt := []byte(b)
		spoilt[i/8] ^= 1 << (i % 8)
		m[string(spoilt)] = api.ErrSum
	}
	for i := range len(b) {
		m[b[:i]] = api.ErrSum
	}
	return m
}

// TestWrongBytes is P18.3: bytes that are no frame are answered with frame.Get's error, whatever their epoch, and change nothing.
func TestWrongBytes(t *testing.T) {
	for _, epoch := range []int{1, 2, 3, 4, 9, maxLast} {
		x := stood(t, usual(), 1)
		for b, want := range wrongBytes(epoch) {
			if _, e := frame.Get(b); e != want {
				t.Fatalf("the test's own fault: %x: %d, not %d", b, e, want)
			}
			x.refusesHear(t, b, want)
		}
		x.tick(t)
		x.pulls(t, 2)
		x.unchanged(t, "behind what was refused")
	}
}

// TestOtherEpochs is P18.3: frames of elder and of later epochs are ErrStale, whatever else they carry, and change nothing.
func TestOtherEpochs(t *testing.T) {
	x := stood(t, usual(), 1)
	for _, epoch := range []int{1, 2, 4, 5, 6, 1 << 8, 1<<8 + 3, 1 << 16, 1<<16 + 3, 1 << 32, 1<<32 + 3, maxLast - 1, maxLast} {
		for seq := range 9 {
			for ack := range 6 {
				f := api.Frame{Epoch: epoch, Seq: seq, Ack: ack}
				if seq > 0 {
					f.Data = bytesOf(ordinary(2, 4))
				}
				x.refusesHear(t, datagram(f), api.ErrStale)
			}
		}
	}
	x.tick(t)
	x.pulls(t, 2)
	x.unchanged(t, "behind what was refused")
}

// TestSeqs is P18.3: of its epoch just the next piece is taken; one that came, one that comes early, and a frame without any, are heard, with OK, and nothing waits more.
func TestSeqs(t *testing.T) {
	x := stood(t, usual(), 2)
	for range 6 {
		taken, came := x.p.taken, x.n.Look().Came
		for _, seq := range []int{0, 1, taken - 1, taken, taken + 2, taken + 3, taken + 17, 1<<16 + taken + 1, 1<<32 + taken + 1, maxSeq} {
			f := api.Frame{Epoch: 3, Seq: seq, Ack: 1}
			if seq > 0 {
				f.Data = bytesOf(ordinary(3, 4))
			}
			if e := x.hear(t, f); e != api.OK || x.n.Look().Came != came {
				t.Fatalf("Seq %d behind %d: %d, %d wait", seq, taken, e, x.n.Look().Came)
			}
			x.holds(t, "no next piece")
		}
		x.come(t, ordinary(1, taken))
		if x.n.Look().Came == 4 {
			x.pull(t)
		}
	}
}

// TestAcks is P18.3: an acknowledgement of what was never sent acknowledges nothing, and one lower than one that came neither; one counts beside a piece, whether that is taken or not.
func TestAcks(t *testing.T) {
	for _, window := range []int{1, 2, 5, 16} {
		x := grown(t, window, 20)
		for _, ack := range []int{1, 2, 20} { // nothing was sent yet
			x.hear(t, api.Frame{Epoch: 1, Ack: ack})
		}
		for x.p.acked < 20 {
			x.tick(t)
			sent, unacked := x.p.offered, x.n.Look().Unacked
			for _, ack := range []int{sent + 1, sent + 2, sent + 16, 1000, 1 << 32, 1<<32 + sent, maxSeq} {
				x.hear(t, api.Frame{Epoch: 1, Ack: ack})
			}
			for ack := range sent - unacked + 1 {
				x.hear(t, api.Frame{Epoch: 1, Ack: ack})
			}
			if n := x.n.Look().Unacked; n != unacked {
				t.Fatalf("Unacked %d, not %d", n, unacked)
			}
			data := bytesOf(ordinary(1, 1))
			x.hear(t, api.Frame{Epoch: 1, Seq: x.p.taken + x.p.acked%3, Ack: x.p.acked + 1, Data: data}) // it came, is the next one, or comes early
			x.holds(t, "Hear")
		}
	}
}

// noRounds: data that is no round.
func noRounds() []string {
	good := bytesOf(ordinary(1, 2))
	l := []string{"", "x", "\x00", good[1:], good + "x", good + good, "\x40" + good, strings.Repeat("x", 1000),
		"\x00\x02\x01\x05\x01k", "\x01\x00\x01\x05\x01k", "\x01\x02\x00", "\x01\x02\x01\x06\x01k", "\x01\x02\x01\x00\x01k", "\x01\x02\x01\x05\x00",
		"\x01\x40\x02\x01\x05\x01k", "\x40\x01\x02\x01\x05\x01k", "\x40\x41\x02\x01\x05\x01k", "\x01\x02\x09" + strings.Repeat("\x05\x01k", 9),
		"\x01\xc0\x00\x01\x00\x00\x00\x00\x01\x01\x05\x01k"} // of the origin 65; of the number 2^40 + 1
	for i := range good {
		l = append(l, good[:i])
	}
	return l
}

// TestNoRounds is P18.3: pieces that are no round are popped, counted by no one, and end no Pull.
func TestNoRounds(t *testing.T) {
	for _, pull := range []int{1, 2, 3, 16} {
		c := usual()
		c.Pull = pull
		x := begun(t, c, 1)
		x.pushes(t, 2)
		many := 0
		for i, data := range noRounds() {
			if i%2 == 0 {
				x.come(t, ordinary(2, i+1))
				many++
			}
			if x.n.Look().Came == pull {
				x.pulls(t, many)
				many = 0
			}
			x.piece(t, data)
			if x.n.Look().Came == pull {
				x.pulls(t, many)
				many = 0
			}
		}
		x.pulls(t, many)
		x.come(t, ordinary(1, 1))
		x.pulls(t, 1)
	}
}

// TestOwnRounds is P18.3: a round of its own that isn't its next pending one isn't taken, is counted by no one, and ends no Pull; by its number alone it is the next one.
func TestOwnRounds(t *testing.T) {
	c := usual()
	c.Pull = 8
	x := begun(t, c, 2)
	x.come(t, ordinary(2, 1), ordinary(2, 2)) // with nothing pending
	x.pulls(t, 0)
	x.pushes(t, 3)
	x.come(t, ordinary(2, 2), ordinary(2, 3), ordinary(2, 4), ordinary(1, 1), of(2, 1<<32+1, del("k")), of(2, maxLast, del("k")))
	x.pulls(t, 1)
	x.come(t, ordinary(2, 1), ordinary(2, 1), ordinary(2, 3), ordinary(2, 2), ordinary(1, 2), ordinary(2, 2))
	x.pulls(t, 3)
	x.come(t, of(2, 3, set("a", 99)))
	x.pulls(t, 1)
	if v := x.n.Read("a"); v != (api.Value{Kind: api.VNumber, N: 99}) || !x.n.Confirmed() {
		t.Fatalf("Read %+v, %d pending", v, x.n.Look().Pending)
	}
	x.come(t, ordinary(2, 3), ordinary(2, 4), ordinary(2, 1))
	x.pulls(t, 0)
}

// TestOriginsBeyond is P18.3: a round of an origin beyond Clients is a round, and is known; so is any number of another's.
func TestOriginsBeyond(t *testing.T) {
	x := begun(t, usual(), 3)
	for _, origin := range []int{1, 4, 5, 63, 64} {
		for _, n := range []int{1, 1, 7, 1000, 1001, maxLast} {
			x.come(t, of(origin, n, add("a", 1)))
			x.pulls(t, 1)
		}
	}
	x.piece(t, "\x40\x41\x02\x01\x05\x01k") // of 65
	x.pulls(t, 0)
	if v := x.n.Read("a"); v != (api.Value{Kind: api.VNumber, N: 30}) {
		t.Fatalf("Read %+v", v)
	}
	c := usual()
	c.Clients, c.MTU = 1, 64
	y := begun(t, c, 1)
	y.come(t, of(2, 1, sized(408)...)) // too long for a round of its own
	y.pulls(t, 1)
}

// TestUpdateErrors is P18.1: each of the client's.
func TestUpdateErrors(t *testing.T) {
	for _, mtu := range []int{64, 100, 1400} {
		c := usual()
		c.MTU = mtu
		x := stood(t, c, 1)
		for _, b := range []struct {
			u    api.Update
			want api.Errno
		}{
			{set("", 1), api.ErrRange}, {set("12345678901234567", 1), api.ErrRange}, {set("k", 1<<61), api.ErrRange}, {add("k", -1<<61-1), api.ErrRange},
			{put("k", strings.Repeat("s", 33)), api.ErrRange}, {api.Update{Key: "k"}, api.ErrKind}, {api.Update{Key: "k", Kind: 6}, api.ErrKind},
			{api.Update{Key: "k", Kind: -1}, api.ErrKind}, {api.Update{Key: "", Kind: 9}, api.ErrKind},
		} {
			want := x.p.update(b.u)
			if b.u.Kind >= 1 && b.u.Kind <= 5 && want != b.want {
				t.Fatalf("the test's own fault: %+v: %d", b.u, want)
			}
			x.refusesUpdate(t, b.u, want)
		}
		for range 8 {
			if x.p.update(sized(13)[0]) != api.OK {
				break
			}
			x.n.Update(sized(13)[0])
			x.twin.Update(sized(13)[0])
		}
		x.refusesUpdate(t, sized(13)[0], api.ErrFull)
		if mtu == 64 {
			x.refusesUpdate(t, sized(14)[0], api.ErrLong)
		}
		x.tick(t)
		x.unchanged(t, "behind what was refused")
	}
}

// TestPushErrors is P18.1: each of the client's, and their order.
func TestPushErrors(t *testing.T) {
	c := usual()
	c.Push, c.Last = 1, 2
	x := begun(t, c, 1)
	x.refusesPush(t, api.ErrNone)
	x.pushes(t, 1)
	x.refusesPush(t, api.ErrNone) // with nothing open, though as many as may be are pending
	x.updates(t, del("k"))
	x.refusesPush(t, api.ErrFull)
	x.come(t, ordinary(1, 1))
	x.refusesPush(t, api.ErrFull)
	x.pulls(t, 1)
	x.pushes(t, 1)
	x.updates(t, del("k"))
	x.refusesPush(t, api.ErrFull)
	x.come(t, of(1, 2, del("k")))
	x.pulls(t, 1)
	x.refusesPush(t, api.ErrExhausted)
	x.resets(t)
	x.refusesPush(t, api.ErrNone)
	x.updates(t, del("k"))
	x.refusesPush(t, api.ErrFull)
	if n := len(x.tick(t)); n != 2 {
		t.Fatalf("%d packets", n)
	}
}

// spoil changes a list of rounds, and all of their updates, spare room too.
func spoil(l []api.Round) {
	l = l[:cap(l)]
	for i := range l {
		for k := range l[i].Updates[:cap(l[i].Updates)] {
			l[i].Updates[:cap(l[i].Updates)][k] = set("spoilt", 9)
		}
		l[i] = of(9, 9)
	}
}

// TestAnswersAreTheCallers: what the caller does with what Known, Journal and Tick told shows nowhere.
func TestAnswersAreTheCallers(t *testing.T) {
	x := stood(t, usual(), 1)
	for range 3 {
		for _, ask := range []func() []api.Round{x.n.Known, x.n.Journal} {
			one, other, want := ask(), ask(), ask()
			spoil(one[1:2:2])
			tells(t, "two rounds share a list", one[2:], want[2:])
			spoil(one)
			tells(t, "two answers share a list", other, want)
			x.holds(t, "spoilt")
		}
		l, same := x.tick(t), x.tick(t)
		kept := slices.Clone(same)
		for i := range l[:cap(l)] {
			l[:cap(l)][i] = api.Packet{From: 9, To: 9, Bytes: "spoilt"}
		}
		if !slices.Equal(same, kept) {
			t.Fatalf("two answers share a list: %v", same)
		}
		x.unchanged(t, "spoilt")
		x.pull(t)
		x.ack(t, 1)
		x.come(t, ordinary(2, 9))
	}
}

// TestHandedInIsNotKept: what becomes of the memory of an update and of a datagram shows nowhere, and both are left as they are.
func TestHandedInIsNotKept(t *testing.T) {
	x := begun(t, usual(), 1)
	for n := 1; n <= 3; n++ {
		key, s := []byte("k"), []byte("text")
		u := put("k", "text")
		if e := x.n.Update(put(unsafe.String(&key[0], 1), unsafe.String(&s[0], 4))); e != api.OK || string(key)+string(s) != "ktext" {
			t.Fatalf("Update: %d, %q %q", e, key, s)
		}
		clear(key)
		clear(s)
		x.p.update(u)
		x.holds(t, "behind a change of the update")
		x.twin.Update(u)
		x.push(t)

		f := api.Frame{Epoch: 1, Seq: n, Data: bytesOf(of(2, n, put("u", "text")))}
		b := []byte(datagram(f))
		if e := x.n.Hear(unsafe.String(&b[0], len(b))); e != api.OK || string(b) != datagram(f) {
			t.Fatalf("Hear: %d, %x", e, b)
		}
		clear(b)
		x.p.hear(f)
		x.twin.Hear(datagram(f))
		x.pulls(t, 1)
		x.tick(t)
	}
	x.resets(t)
	x.tick(t)
	x.unchanged(t, "behind changes of what was handed in")
}

// TestTwoNodes: two, of one origin or of two, show nothing of each other.
func TestTwoNodes(t *testing.T) {
	for origin := 1; origin <= 2; origin++ {
		one, other := stood(t, usual(), 1), begun(t, usual(), origin)
		both := func(name string) {
			t.Helper()
			one.holds(t, name)
			other.holds(t, name)
		}
		both("begun")
		other.pushes(t, 2)
		both("the other one pushed")
		one.tick(t)
		other.tick(t)
		both("both ticked")
		other.come(t, ordinary(3, 1), ordinary(origin, 1))
		one.pulls(t, 2)
		both("the one pulled")
		other.resets(t)
		both("the other one is reset")
		spoil(one.n.Known())
		spoil(one.n.Journal())
		one.resets(t)
		both("the one is reset")
		other.pushes(t, 1)
		one.unchanged(t, "the other one pushed")
		other.unchanged(t, "the other one pushed")
	}
}

// TestAskedAgain is P18.1 and P18.5: what is asked tells the same, however often, and changes nothing.
func TestAskedAgain(t *testing.T) {
	x := stood(t, usual(), 2)
	for range 4 {
		for range 5 {
			x.holds(t, "again")
		}
		x.unchanged(t, "asked again")
		x.tick(t)
		x.pull(t)
		x.ack(t, min(x.n.Look().Unacked, 1))
	}
}
