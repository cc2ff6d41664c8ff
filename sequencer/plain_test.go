package sequencer

import (
	"math"
	"reflect"
	"slices"
	"testing"

	"chapbook/api"
	"chapbook/frame"
	"chapbook/prefix"
	"chapbook/round"
)

const (
	last   = 1 << 40 // the greatest epoch, and the greatest number of a round
	maxSeq = 1 << 50 // the greatest number of a piece
)

// of makes a round.
func of(origin, number int, l ...api.Update) api.Round {
	return api.Round{Origin: origin, Number: number, Updates: l}
}

// ordinary is the round that the tests have of an origin and a number, another one of each; it fits with each mtu.
func ordinary(origin, number int) api.Round {
	return of(origin, number, api.Update{Key: "k", Kind: api.UAdd, N: int64(origin*100_000 + number)})
}

// filled is an origin's ordinary rounds, from a number to another one.
func filled(origin, from, to int) []api.Round {
	var l []api.Round
	for number := from; number <= to; number++ {
		l = append(l, ordinary(origin, number))
	}
	return l
}

// bytesOf is a round's bytes.
func bytesOf(r api.Round) string {
	b, e := round.Put(r)
	if e != api.OK {
		panic("the test's own fault: no round")
	}
	return b
}

// number: a number's bytes.
func number(n int) string {
	b, e := prefix.Put(uint64(n))
	if e != api.OK {
		panic("the test's own fault: no number")
	}
	return b
}

// datagram: a frame's.
func datagram(f api.Frame) string {
	b, e := frame.Put(f, api.MaxMTU)
	if e != api.OK {
		panic("the test's own fault: no frame")
	}
	return b
}

// config is one of so many clients, that window and that mtu.
func config(clients, window, mtu int) api.Config {
	return api.Config{Clients: clients, Window: window, Push: 2, Pull: 3, MTU: mtu, Last: 1000}
}

// plainEnd is what a plain sequencer knows of a client.
type plainEnd struct {
	epoch   int
	taken   int      // the number of the last piece that was taken
	offered []string // all that was ever offered in the epoch
	acked   int      // how many of these are acknowledged
	at      int      // how many rounds were fed
}

// plain is a sequencer by the tests' own means, that hears frames, and not their bytes.
type plain struct {
	c      api.Config
	rounds []api.Round
	ends   []plainEnd
}

func newPlain(c api.Config) *plain { return &plain{c: c, ends: make([]plainEnd, c.Clients)} }

// end is the one of a client; the first one is 1.
func (p *plain) end(client int) *plainEnd { return &p.ends[client-1] }

func (p *plain) hear(from int, f api.Frame) api.Errno {
	if from < 1 || from > p.c.Clients {
		return api.ErrNone
	}
	x := p.end(from)
	if f.Epoch < x.epoch {
		return api.ErrStale
	}
	if f.Epoch > x.epoch {
		*x = plainEnd{epoch: f.Epoch}
	}
	if f.Ack <= len(x.offered) {
		x.acked = max(x.acked, f.Ack)
	}
	if f.Seq == x.taken+1 {
		x.taken++
		p.order(from, f.Data)
	}
	return api.OK
}

// order: data comes to be the last round, if it is the next one of that client, and if it fits.
func (p *plain) order(from int, data string) {
	r, e := round.Get(data)
	if e == api.OK && r.Origin == from && r.Number == p.lastOf(from)+1 && round.Fits(r.Updates, p.c.MTU) {
		p.rounds = append(p.rounds, r)
	}
}

// lastOf is the number of an origin's last round.
func (p *plain) lastOf(origin int) int {
	n := 0
	for _, r := range p.rounds {
		if r.Origin == origin {
			n++
		}
	}
	return n
}

// pump offers as many rounds to each client as the window has room for.
func (p *plain) pump() {
	for i := range p.ends {
		x := &p.ends[i]
		for x.at < len(p.rounds) && len(x.offered)-x.acked < p.c.Window {
			x.offered = append(x.offered, bytesOf(p.rounds[x.at]))
			x.at++
		}
	}
}

// frames are those that are on their way to a client.
func (x *plainEnd) frames() []api.Frame {
	if x.epoch == 0 {
		return nil
	}
	var l []api.Frame
	for i := x.acked; i < len(x.offered); i++ {
		l = append(l, api.Frame{Epoch: x.epoch, Seq: i + 1, Ack: x.taken, Data: x.offered[i]})
	}
	if len(l) == 0 {
		l = append(l, api.Frame{Epoch: x.epoch, Ack: x.taken})
	}
	return l
}

func (p *plain) tick() []api.Packet {
	p.pump()
	var l []api.Packet
	for i := range p.ends {
		for _, f := range p.ends[i].frames() {
			l = append(l, api.Packet{From: 0, To: i + 1, Bytes: datagram(f)})
		}
	}
	return l
}

// pair is a sequencer and a plain one, to both of which the same is done, and a twin, to which all of it is done but what is refused.
type pair struct {
	s, twin *Sequencer
	p       *plain
}

// made is a new sequencer.
func made(t *testing.T, c api.Config) *Sequencer {
	t.Helper()
	s, e := New(c)
	if e != api.OK || s == nil {
		t.Fatalf("New %+v: %v %d", c, s, e)
	}
	return s
}

func begun(t *testing.T, c api.Config) *pair {
	t.Helper()
	x := &pair{made(t, c), made(t, c), newPlain(c)}
	x.holds(t, "begun")
	return x
}

// heard is one that has heard of all its clients: they are of the epoch 1.
func heard(t *testing.T, c api.Config) *pair {
	t.Helper()
	x := begun(t, c)
	for client := 1; client <= c.Clients; client++ {
		x.hears(t, client, api.Frame{Epoch: 1})
	}
	return x
}

// beyond: numbers that are no client of any sequencer.
func beyond() []int {
	return []int{0, -1, -2, -63, -64, -65, 65, 66, 128, 256, 1 << 16, 1 << 32, 1<<32 + 1, -1 << 32, 1<<62 + 1, math.MinInt, math.MinInt + 1, math.MaxInt}
}

// holds looks whether all stands as the plain one: the log, and what each client was fed.
func (x *pair) holds(t *testing.T, name string) {
	t.Helper()
	if l := x.s.Log(); !slices.EqualFunc(l, x.p.rounds, round.Same) {
		t.Fatalf("%s: Log %v, not %v", name, l, x.p.rounds)
	}
	for i, want := range x.p.ends {
		if at, unacked := x.s.Fed(i+1), x.s.Unacked(i+1); at != want.at || unacked != len(want.offered)-want.acked {
			t.Fatalf("%s: of client %d: Fed %d, Unacked %d, not %d, %d", name, i+1, at, unacked, want.at, len(want.offered)-want.acked)
		}
	}
	for _, client := range append(beyond(), len(x.p.ends)+1, len(x.p.ends)+2) {
		if at, unacked := x.s.Fed(client), x.s.Unacked(client); at != 0 || unacked != 0 {
			t.Fatalf("%s: of %d, which is no client: Fed %d, Unacked %d", name, client, at, unacked)
		}
	}
}

// hear looks whether a frame's datagram is answered as the plain one answers the frame.
func (x *pair) hear(t *testing.T, from int, f api.Frame) api.Errno {
	t.Helper()
	want, b := x.p.hear(from, f), datagram(f)
	if e := x.s.Hear(from, b); e != want {
		t.Fatalf("Hear %d %+v: %d, not %d", from, f, e, want)
	}
	if want == api.OK {
		x.twin.Hear(from, b)
	}
	x.holds(t, "heard")
	return want
}

// hears looks whether a frame is answered with OK.
func (x *pair) hears(t *testing.T, from int, f api.Frame) {
	t.Helper()
	if e := x.hear(t, from, f); e != api.OK {
		t.Fatalf("Hear %d %+v: %d", from, f, e)
	}
}

// refuses looks whether bytes are answered with that error, and nothing is changed, down to what is kept inside.
func (x *pair) refuses(t *testing.T, from int, b string, want api.Errno) {
	t.Helper()
	if e := x.s.Hear(from, b); e != want || e == api.OK {
		t.Fatalf("Hear %d %x: %d, not %d", from, b, e, want)
	}
	x.unchanged(t)
}

// unchanged looks whether what was refused left nothing behind.
func (x *pair) unchanged(t *testing.T) {
	t.Helper()
	x.holds(t, "refused")
	if !reflect.DeepEqual(x.s, x.twin) {
		t.Fatalf("what was refused is to be seen inside")
	}
}

// send: a client's next piece, in its epoch.
func (x *pair) send(t *testing.T, from int, data string) {
	t.Helper()
	p := x.p.end(from)
	x.hears(t, from, api.Frame{Epoch: max(p.epoch, 1), Seq: p.taken + 1, Ack: p.acked, Data: data})
}

// sendRounds: a client's next pieces are these rounds, which come to be the log's last ones.
func (x *pair) sendRounds(t *testing.T, from int, rounds ...api.Round) {
	t.Helper()
	for _, r := range rounds {
		x.send(t, from, bytesOf(r))
		if l := x.s.Log(); len(l) == 0 || !round.Same(l[len(l)-1], r) {
			t.Fatalf("%v didn't come to the log: %v", r, l)
		}
	}
}

// ack: a client tells that so many more came.
func (x *pair) ack(t *testing.T, from, many int) {
	t.Helper()
	p := x.p.end(from)
	x.hears(t, from, api.Frame{Epoch: p.epoch, Ack: p.acked + many})
}

// ackAll: each client that was heard tells that all came.
func (x *pair) ackAll(t *testing.T) {
	t.Helper()
	for i := range x.p.ends {
		if p := &x.p.ends[i]; p.epoch > 0 {
			x.ack(t, i+1, len(p.offered)-p.acked)
		}
	}
}

// tick looks whether the same packets are sent as the plain one sends.
func (x *pair) tick(t *testing.T) []api.Packet {
	t.Helper()
	want := x.p.tick()
	got := x.s.Tick()
	if !slices.Equal(got, want) {
		t.Fatalf("Tick: %x, not %x", got, want)
	}
	x.twin.Tick()
	x.holds(t, "ticked")
	return got
}

// drain ticks and acknowledges, till each client that was heard was fed all.
func (x *pair) drain(t *testing.T) {
	t.Helper()
	for range len(x.p.rounds)/x.p.c.Window + 2 {
		x.tick(t)
		x.ackAll(t)
	}
	for i, p := range x.p.ends {
		if p.epoch > 0 && (x.s.Fed(i+1) != len(x.p.rounds) || x.s.Unacked(i+1) != 0) {
			t.Fatalf("client %d was fed %d of %d, of which %d aren't acknowledged", i+1, x.s.Fed(i+1), len(x.p.rounds), x.s.Unacked(i+1))
		}
	}
}
