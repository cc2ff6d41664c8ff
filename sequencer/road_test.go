package sequencer

import (
	"reflect"
	"slices"
	"strconv"
	"testing"

	"chapbook/api"
	"chapbook/frame"
	"chapbook/link"
	"chapbook/round"
)

// chance gives numbers that look like chance, the same ones each time.
type chance uint64

func (c *chance) below(n int) int {
	*c = *c*6364136223846793005 + 1442695040888963407
	return int(uint64(*c) >> 33 % uint64(n))
}

// sendNext: a client's next piece is the next ordinary round of an origin.
func (x *pair) sendNext(t *testing.T, from, origin int) {
	t.Helper()
	x.send(t, from, bytesOf(ordinary(origin, x.p.lastOf(origin)+1)))
}

// steps is how many things step knows.
const steps = 9

// step does one of these things.
func (x *pair) step(t *testing.T, what int) {
	t.Helper()
	one, two := x.p.end(1), x.p.end(2)
	switch what {
	case 0:
		x.sendNext(t, 1, 1)
	case 1:
		x.sendNext(t, 2, 2)
	case 2:
		x.tick(t)
	case 3:
		x.hear(t, 1, api.Frame{Epoch: max(one.epoch, 1), Ack: one.acked + 1})
	case 4:
		x.hear(t, 2, api.Frame{Epoch: one.epoch + 1, Ack: len(two.offered)}) // its epoch may be elder, the same or later
	case 5:
		x.hear(t, 1, api.Frame{Epoch: one.epoch + 1, Seq: 1, Data: bytesOf(ordinary(1, 1))})
	case 6:
		x.hear(t, 2, api.Frame{Epoch: max(two.epoch, 1), Seq: two.taken + 2, Data: bytesOf(ordinary(2, x.p.lastOf(2)+2))}) // it comes early
	case 7:
		x.sendNext(t, 1, 2) // not its own
	case 8:
		if one.taken > 0 {
			x.hear(t, 1, api.Frame{Epoch: one.epoch, Seq: one.taken, Data: bytesOf(ordinary(1, x.p.lastOf(1)+1))}) // a number that was taken
		}
	}
}

// TestAllOrders is P16.2 to P16.4: against plain ones, each order of up to five steps, with small windows; a Tick ends each.
func TestAllOrders(t *testing.T) {
	const base = steps + 1 // one more, for no step at all
	for window := 1; window <= 2; window++ {
		for order := range base * base * base * base * base {
			x := begun(t, config(2, window, 64))
			for o := order; o > 0; o /= base {
				if o%base > 0 {
					x.step(t, o%base-1)
				}
			}
			x.tick(t)
		}
	}
}

// strange is a frame with numbers about those that a client has now, and with data of any kind.
func (x *pair) strange(c *chance, from int) api.Frame {
	p := x.p.end(from)
	f := api.Frame{Epoch: max(p.epoch, 1), Seq: max(p.taken+c.below(4)-1, 0), Ack: max(p.acked+c.below(5)-1, 0)}
	switch c.below(40) {
	case 0:
		f.Epoch++
	case 1, 2, 3:
		f.Epoch = max(f.Epoch-1, 1)
	}
	if f.Seq == 0 {
		return f
	}
	origin := from
	switch c.below(12) {
	case 0:
		origin = c.below(x.p.c.Clients) + 1
	case 1:
		f.Data = noRounds()[c.below(len(noRounds()))]
		return f
	}
	f.Data = bytesOf(ordinary(origin, max(x.p.lastOf(origin)+c.below(4)-c.below(2), 1)))
	return f
}

// TestLongOrders is P16.2 to P16.4: against plain ones, over long orders of datagrams and ticks, with each window.
func TestLongOrders(t *testing.T) {
	c := chance(1)
	for window := 1; window <= 16; window++ {
		x := begun(t, config(window%5+1, window, 64))
		for range 600 {
			from := c.below(x.p.c.Clients) + 1
			switch n := c.below(100); {
			case n < 30:
				x.sendNext(t, from, from)
			case n < 50:
				x.tick(t)
			case n < 60:
				x.hear(t, from, api.Frame{Epoch: max(x.p.end(from).epoch, 1), Ack: x.p.end(from).acked + c.below(window+2)})
			case n < 98:
				x.hear(t, from, x.strange(&c, from))
			default:
				for b, want := range wrongBytes(c.below(4) + 1) {
					x.refuses(t, from, b, want)
					break
				}
			}
		}
		x.tick(t)
		x.drain(t)
		x.unchanged(t)
		if n := len(x.p.rounds); n < 100 {
			t.Fatalf("window %d: %d rounds: too little to tell anything", window, n)
		}
	}
}

// TestJunk is P16.4: whatever comes, of each origin the log has just rounds that came from it, in the order of their numbers, without gaps; what stands there stays.
func TestJunk(t *testing.T) {
	c := chance(2)
	for seed := range 30 {
		clients := seed%4 + 1
		s := made(t, config(clients, seed%16+1, 64))
		came := map[string]bool{} // client by client, the data that came from it
		var stood []api.Round
		for range 1500 {
			from, origin := c.below(clients)+1, c.below(clients)+1
			f := api.Frame{Epoch: c.below(3) + 1, Seq: c.below(40) + 1, Ack: c.below(50), Data: bytesOf(of(origin, c.below(12)+1, api.Update{Key: "k", Kind: api.USet, N: int64(c.below(5))}))}
			if e := s.Hear(from, datagram(f)); e != api.OK && e != api.ErrStale {
				t.Fatalf("Hear: %d", e)
			}
			came[strconv.Itoa(from)+f.Data] = true
			if c.below(20) == 0 {
				s.Tick()
			}
		}
		for next := 1; next <= 400; next++ { // one epoch that goes on, so that there are rounds enough
			origin, n := next%clients+1, c.below(12)+1
			data := bytesOf(of(origin, n, api.Update{Key: "j", Kind: api.USet, N: int64(c.below(9))}))
			came[strconv.Itoa(origin)+data] = true
			s.Hear(origin, datagram(api.Frame{Epoch: 9, Seq: (next + clients - 1) / clients, Data: data}))
			l := s.Log()
			lasts := map[int]int{}
			for i, r := range l {
				lasts[r.Origin]++
				if r.Number != lasts[r.Origin] || !came[strconv.Itoa(r.Origin)+bytesOf(r)] {
					t.Fatalf("at the place %d: %v", i, r)
				}
			}
			if len(l) < len(stood) || !slices.EqualFunc(l[:len(stood)], stood, round.Same) {
				t.Fatalf("%v isn't a beginning of %v any more", stood, l)
			}
			stood = l
		}
		if len(stood) < 5 {
			t.Fatalf("%d rounds: too little to tell anything", len(stood))
		}
	}
}

// client is a client by the tests' own means: what it pushed, and what it popped in its epoch.
type client struct {
	number int
	k      *link.Link
	pushed []api.Round
	sent   int // how many of these were offered in its epoch
	popped []string
}

// road is a sequencer, its clients, and the datagrams that are on their way.
type road struct {
	c       api.Config
	s       *Sequencer
	clients []*client
	flight  []api.Packet
	taken   []api.Packet // those with which a round came to the log
	fails   int
	spoilt  int // how many spoilt ones came
}

func newRoad(t *testing.T, c api.Config) *road {
	t.Helper()
	r := &road{c: c, s: made(t, c)}
	for i := range c.Clients {
		r.clients = append(r.clients, &client{number: i + 1, k: link.New(1, c.Window, c.Pull, false)})
	}
	return r
}

// push: the client has one more round to send.
func (k *client) push() { k.pushed = append(k.pushed, ordinary(k.number, len(k.pushed)+1)) }

// fail: the client is lost, but for what it pushed, and a fresh one of the next epoch stands in its place.
func (r *road) fail(k *client) {
	k.k = link.New(k.k.Epoch()+1, r.c.Window, r.c.Pull, false)
	k.sent, k.popped = 0, nil
	r.fails++
}

// tickClient: a client's frames go on their way.
func (r *road) tickClient(k *client) {
	for k.sent < len(k.pushed) && k.k.Offer(bytesOf(k.pushed[k.sent])) == api.OK {
		k.sent++
	}
	for _, f := range k.k.Frames() {
		b, e := frame.Put(f, r.c.MTU)
		if e != api.OK {
			panic("the test's own fault: a frame that is too long")
		}
		r.flight = append(r.flight, api.Packet{From: k.number, Bytes: b})
	}
}

// tick looks whether each packet of a Tick is from 0 to a client that was heard, in turns, with the client's epoch, and with data that is, in order and without gaps, the log's next rounds.
func (r *road) tick(t *testing.T) {
	t.Helper()
	log, to, l := r.s.Log(), 0, r.s.Tick()
	var before api.Frame
	for _, p := range l {
		f, e := frame.Get(p.Bytes)
		if e != api.OK || p.From != 0 || p.To < to || p.To > r.c.Clients || len(p.Bytes) > r.c.MTU || f.Epoch > r.clients[p.To-1].k.Epoch() {
			t.Fatalf("from %d to %d: %+v %d", p.From, p.To, f, e)
		}
		if f.Seq > 0 && f.Data != bytesOf(log[f.Seq-1]) || p.To == to && (f.Seq != before.Seq+1 || f.Epoch != before.Epoch || f.Ack != before.Ack) {
			t.Fatalf("to %d: %+v behind %+v", p.To, f, before)
		}
		to, before = p.To, f
	}
	r.flight = append(r.flight, l...)
}

// deliver: a packet comes.
func (r *road) deliver(t *testing.T, p api.Packet) {
	t.Helper()
	f, bad := frame.Get(p.Bytes)
	switch {
	case p.From > 0:
		r.come(t, p, bad)
	case bad == api.OK:
		r.clients[p.To-1].k.Hear(f)
	}
}

// come: a packet comes to the sequencer; which are those by which a round came to the log?
func (r *road) come(t *testing.T, p api.Packet, bad api.Errno) {
	t.Helper()
	before := len(r.s.Log())
	e := r.s.Hear(p.From, p.Bytes)
	if bad != api.OK && e != bad || bad == api.OK && e != api.OK && e != api.ErrStale {
		t.Fatalf("Hear of %x: %d", p.Bytes, e)
	}
	if bad != api.OK {
		r.spoilt++
	}
	switch after := len(r.s.Log()); {
	case after == before+1 && e == api.OK:
		r.taken = append(r.taken, p)
	case after != before:
		t.Fatalf("%d rounds, and then %d", before, after)
	}
}

// pop: a client pops all that waits.
func (k *client) pop() {
	for data, ok := k.k.Pop(); ok; data, ok = k.k.Pop() {
		k.popped = append(k.popped, data)
	}
}

// take is a packet out of those on their way, one time in three a copy of it.
func (r *road) take(c *chance) api.Packet {
	i := c.below(len(r.flight))
	p := r.flight[i]
	if c.below(3) > 0 {
		r.flight = slices.Delete(r.flight, i, i+1)
	}
	return p
}

// step does something with one of the nodes, or with a packet that is on its way.
func (r *road) step(t *testing.T, c *chance) {
	t.Helper()
	k := r.clients[c.below(len(r.clients))]
	switch n := c.below(40); {
	case n < 6:
		k.push()
	case n < 12:
		r.tickClient(k)
	case n < 16:
		r.tick(t)
	case n < 19:
		k.pop()
	case len(r.flight) == 0:
	case n < 36:
		r.deliver(t, r.take(c))
	case n < 39:
		r.take(c) // it is lost
	default:
		p := r.take(c)
		b := []byte(p.Bytes)
		b[c.below(len(b))] ^= 1 << c.below(8)
		r.deliver(t, api.Packet{From: p.From, To: p.To, Bytes: string(b)})
	}
}

// holds is P16.4: the log has of each origin a beginning of what it pushed, and each client popped a beginning of the log.
func (r *road) holds(t *testing.T) {
	t.Helper()
	log := r.s.Log()
	lasts := make([]int, r.c.Clients)
	for i, x := range log {
		pushed := r.clients[x.Origin-1].pushed
		if n := lasts[x.Origin-1]; n == len(pushed) || !round.Same(x, pushed[n]) {
			t.Fatalf("at the place %d: %v", i, x)
		}
		lasts[x.Origin-1]++
	}
	for _, k := range r.clients {
		for i, data := range k.popped {
			if i >= len(log) || data != bytesOf(log[i]) {
				t.Fatalf("client %d, at the place %d: %x", k.number, i, data)
			}
		}
	}
}

// again is P16.4: a datagram with which a round came to the log changes nothing of that, whenever it comes again.
func (r *road) again(t *testing.T, c *chance) {
	t.Helper()
	if len(r.taken) == 0 {
		return
	}
	p, log := r.taken[c.below(len(r.taken))], r.s.Log()
	for range 2 {
		if e := r.s.Hear(p.From, p.Bytes); e != api.OK && e != api.ErrStale {
			t.Fatalf("Hear of %x again: %d", p.Bytes, e)
		}
		if l := r.s.Log(); !slices.EqualFunc(l, log, round.Same) {
			t.Fatalf("%x came again: %v, and then %v", p.Bytes, log, l)
		}
	}
}

// drain: nothing is lost any more, till all that was pushed is common, and each client has it.
func (r *road) drain(t *testing.T) {
	t.Helper()
	pushed := 0
	for _, k := range r.clients {
		pushed += len(k.pushed)
	}
	for range 2*pushed + 4 {
		for _, k := range r.clients {
			k.pop()
			r.tickClient(k)
		}
		r.tick(t)
		for len(r.flight) > 0 {
			p := r.flight[0]
			r.flight = r.flight[1:]
			r.deliver(t, p)
		}
	}
	r.holds(t)
	for _, k := range r.clients {
		k.pop()
		if len(k.popped) != pushed || r.s.Fed(k.number) != pushed || r.s.Unacked(k.number) != 0 || k.k.Unacked() != 0 {
			t.Fatalf("client %d has %d of %d, was fed %d", k.number, len(k.popped), pushed, r.s.Fed(k.number))
		}
	}
}

// roadConfig is one of so many clients, with that window, and that room at the clients.
func roadConfig(clients, window, pull int) api.Config {
	return api.Config{Clients: clients, Window: window, Push: 16, Pull: pull, MTU: 64, Last: last}
}

// TestRoad is P16.2 to P16.4: over a road that loses, doubles, delays, shuffles and spoils datagrams, each round comes to the log once, and the log to each client.
func TestRoad(t *testing.T) {
	c := chance(3)
	for _, window := range []int{1, 2, 3, 5, 8, 16} {
		for clients := 1; clients <= 4; clients++ {
			r := newRoad(t, roadConfig(clients, window, 17-window))
			for range 500 {
				r.step(t, &c)
				r.again(t, &c)
				r.holds(t)
			}
			r.drain(t)
			r.again(t, &c)
			if len(r.taken) < 20 || r.spoilt == 0 {
				t.Fatalf("%d rounds, %d spoilt: too little to tell anything", len(r.taken), r.spoilt)
			}
		}
	}
}

// TestRoadWithFailures is P16.2 to P16.4: clients fail time and again, while datagrams of their elder epochs are on their way.
func TestRoadWithFailures(t *testing.T) {
	c := chance(4)
	for _, window := range []int{1, 2, 4, 16} {
		for clients := 1; clients <= 3; clients++ {
			r := newRoad(t, roadConfig(clients, window, window))
			for range 900 {
				r.step(t, &c)
				if c.below(50) == 0 {
					r.fail(r.clients[c.below(clients)])
				}
				r.again(t, &c)
				r.holds(t)
			}
			r.drain(t)
			for range 30 { // and on, in the last epochs
				r.step(t, &c)
				r.holds(t)
			}
			r.drain(t)
			if len(r.taken) < 20 || r.fails < 5 {
				t.Fatalf("%d rounds, %d failures: too little to tell anything", len(r.taken), r.fails)
			}
		}
	}
}

// TestTwiceAtOnce is P16.4: of two sequencers one hears each datagram once, the other one each twice, one behind the other: they are the same, down to what is kept inside.
func TestTwiceAtOnce(t *testing.T) {
	c := chance(5)
	for seed := range 40 {
		clients := seed%4 + 1
		x := begun(t, config(clients, seed%16+1, 64)) // just its plain one, for the strange frames
		once, twice := made(t, x.p.c), made(t, x.p.c)
		for range 400 {
			from := c.below(clients) + 1
			f := x.strange(&c, from)
			x.p.hear(from, f)
			e := once.Hear(from, datagram(f))
			if e1, e2 := twice.Hear(from, datagram(f)), twice.Hear(from, datagram(f)); e1 != e || e2 != e {
				t.Fatalf("%+v: %d, and %d and %d", f, e, e1, e2)
			}
			if c.below(5) == 0 {
				x.p.pump()
				if one, two := once.Tick(), twice.Tick(); !slices.Equal(one, two) {
					t.Fatalf("Tick: %x and %x", one, two)
				}
			}
			if !reflect.DeepEqual(once, twice) {
				t.Fatalf("%+v came twice: they aren't the same any more", f)
			}
		}
		if !slices.EqualFunc(once.Log(), x.p.rounds, round.Same) || !slices.EqualFunc(twice.Log(), x.p.rounds, round.Same) {
			t.Fatalf("%v, and %v", once.Log(), twice.Log())
		}
		if n := len(x.p.rounds); n < 10 {
			t.Fatalf("%d rounds: too little to tell anything", n)
		}
	}
}

// TestTwiceLater is P16.4: of two sequencers one hears each datagram of a life as it is sent, the other one all of them again and again behind those that came since: their logs are the same.
func TestTwiceLater(t *testing.T) {
	c := chance(6)
	for window := 1; window <= 16; window++ {
		once, later := made(t, config(3, window, 64)), made(t, config(3, window, 64))
		var sent []api.Packet
		lives, pieces, pushed := [4]int{0, 1, 1, 1}, [4]int{}, [4]int{}
		for range 300 {
			from := c.below(3) + 1
			if c.below(30) == 0 {
				lives[from]++
				pieces[from] = 0
			}
			pieces[from]++ // a client sends all of its rounds, from the first one on, in each of its lives
			pushed[from] = max(pushed[from], pieces[from])
			p := api.Packet{From: from, Bytes: datagram(api.Frame{Epoch: lives[from], Seq: pieces[from], Data: bytesOf(ordinary(from, pieces[from]))})}
			sent = append(sent, p)
			once.Hear(from, p.Bytes)
			later.Hear(from, p.Bytes)
			for range 5 {
				old := sent[c.below(len(sent))]
				later.Hear(old.From, old.Bytes)
			}
			if !reflect.DeepEqual(once, later) {
				t.Fatalf("window %d: %v, and %v", window, once.Log(), later.Log())
			}
		}
		for _, p := range sent {
			later.Hear(p.From, p.Bytes)
		}
		if n := len(later.Log()); n != pushed[1]+pushed[2]+pushed[3] || !slices.EqualFunc(once.Log(), later.Log(), round.Same) {
			t.Fatalf("window %d: %d rounds of %v", window, n, pushed)
		}
	}
}
