package system

import (
	"reflect"
	"slices"
	"testing"

	"chapbook/api"
	"chapbook/frame"
	"chapbook/node"
	"chapbook/replay"
	"chapbook/round"
	"chapbook/sequencer"
	"chapbook/value"
)

const (
	maxLast = 1 << 40 // the greatest number of a round, and of an epoch
	room    = 4096    // packets on their way
)

// The kinds of acts, as the document numbers them.
const (
	update  = 1
	read    = 2
	push    = 3
	pull    = 4
	confirm = 5
	reset   = 6
	tick    = 7
	deliver = 8
	drop    = 9
	twice   = 10
	spoil   = 11
)

// set, put, add, app and del make updates.
func set(key string, n int64) api.Update { return api.Update{Key: key, Kind: api.USet, N: n} }
func put(key, s string) api.Update       { return api.Update{Key: key, Kind: api.UText, S: s} }
func add(key string, n int64) api.Update { return api.Update{Key: key, Kind: api.UAdd, N: n} }
func app(key, s string) api.Update       { return api.Update{Key: key, Kind: api.UAppend, S: s} }
func del(key string) api.Update          { return api.Update{Key: key, Kind: api.UDelete} }

// at is an act of a node, on is one of a packet.
func at(kind, node int) api.Act { return api.Act{Kind: kind, Node: node} }
func on(kind, n int) api.Act    { return api.Act{Kind: kind, N: n} }

// changes, reads and spoils are the acts with more than that.
func changes(node int, u api.Update) api.Act {
	return api.Act{Kind: update, Node: node, Update: u}
}
func reads(node int, key string) api.Act { return api.Act{Kind: read, Node: node, Key: key} }
func spoils(n, bit int, mask uint32) api.Act {
	return api.Act{Kind: spoil, N: n, Bit: bit, Mask: mask}
}

// of makes a round.
func of(origin, number int, l ...api.Update) api.Round {
	return api.Round{Origin: origin, Number: number, Updates: l}
}

// list is the updates that the tests have of an origin and a number, other ones of each, two at most; what they make hangs on their order, and they fit with each mtu.
func list(origin, number int) []api.Update {
	l := []api.Update{add("a", int64(number%9)), app("t", string(rune('a'+(5*origin+number)%26))), set("s", int64(origin)), del("s")}
	return l[number%3 : number%3+1+number%2]
}

// ordinary is the round that the tests have of an origin and a number.
func ordinary(origin, number int) api.Round { return of(origin, number, list(origin, number)...) }

// same tells by its own means whether two rounds are alike.
func same(a, b api.Round) bool {
	return a.Origin == b.Origin && a.Number == b.Number && slices.Equal(a.Updates, b.Updates)
}

// bytesOf is a round's bytes.
func bytesOf(r api.Round) string {
	b, e := round.Put(r)
	if e != api.OK {
		panic("the test's own fault: no round")
	}
	return b
}

// datagram: a frame's.
func datagram(f api.Frame) string {
	b, e := frame.Put(f, api.MaxMTU)
	if e != api.OK {
		panic("the test's own fault: no frame")
	}
	return b
}

// usual is an ordinary configuration.
func usual() api.Config {
	return api.Config{Clients: 2, Window: 2, Push: 3, Pull: 4, MTU: 64, Last: 1000}
}

// sent is a packet of the plain system.
type sent struct {
	api.Packet
	spoilt bool
}

// plain is a system by the tests' own means, but for its nodes and what they send: these have tests of their own.
type plain struct {
	s      *sequencer.Sequencer
	nodes  map[int]*node.Node
	flight []sent
}

func newPlain(c api.Config) *plain {
	s, e := sequencer.New(c)
	if e != api.OK {
		panic("the test's own fault: no sequencer")
	}
	p := &plain{s: s, nodes: map[int]*node.Node{}}
	for i := 1; i <= c.Clients; i++ {
		p.nodes[i], _ = node.New(c, i)
	}
	return p
}

func (p *plain) do(a api.Act) api.Reply {
	n := p.nodes[a.Node]
	switch {
	case a.Kind < update || a.Kind > spoil:
		return api.Reply{Err: api.ErrKind}
	case a.Kind >= deliver:
		return api.Reply{Err: p.packet(a)}
	case a.Kind == tick && a.Node == 0:
		return p.send(p.s.Tick())
	case n == nil:
		return api.Reply{Err: api.ErrNone}
	}
	var r api.Reply
	switch a.Kind {
	case update:
		r.Err = n.Update(a.Update)
	case read:
		r.Value, r.N = n.Read(a.Key), n.Len()
	case push:
		r.N, r.Err = n.Push()
	case pull:
		r.N = n.Pull()
	case confirm:
		r.Yes = n.Confirmed()
	case reset:
		r.Err = n.Reset()
	case tick:
		r = p.send(n.Tick())
	}
	return r
}

// send: the first ones go, as long as there is room.
func (p *plain) send(l []api.Packet) api.Reply {
	n := 0
	for _, x := range l {
		if len(p.flight) < room {
			p.flight = append(p.flight, sent{Packet: x})
			n++
		}
	}
	return api.Reply{N: n}
}

// packet is an act of one that is on its way.
func (p *plain) packet(a api.Act) api.Errno {
	if a.N < 0 || a.N >= len(p.flight) {
		return api.ErrNone
	}
	x := p.flight[a.N]
	switch a.Kind {
	case deliver, drop:
		p.flight = slices.Delete(slices.Clone(p.flight), a.N, a.N+1)
		if a.Kind == deliver {
			return p.hear(x.Packet)
		}
	case twice:
		if len(p.flight) == room {
			return api.ErrFull
		}
		p.flight = append(p.flight, x)
	case spoil:
		if x.spoilt {
			return api.ErrTwice
		}
		p.flight[a.N] = sent{api.Packet{From: x.From, To: x.To, Bytes: flipped(x.Bytes, a.Bit, a.Mask)}, true}
	}
	return api.OK
}

// flipped: bit by bit, those of a text other ones where a mask says so, from a bit on.
func flipped(text string, bit int, mask uint32) string {
	b := []byte(text)
	for i := range b {
		for j := range 8 {
			if n := 8*i + j - bit; n >= 0 && n < 32 && mask&(1<<n) != 0 {
				b[i] ^= 1 << j
			}
		}
	}
	return string(b)
}

func (p *plain) hear(x api.Packet) api.Errno {
	if x.To == 0 {
		return p.s.Hear(x.From, x.Bytes)
	}
	if n := p.nodes[x.To]; n != nil {
		return n.Hear(x.Bytes)
	}
	return api.ErrNone
}

// life is what a client did and knows, as its acts' replies tell it.
type life struct {
	client, epoch  int
	journal, known []api.Round
	open           []api.Update
}

// pending are the rounds of its journal that aren't known.
func (l *life) pending() []api.Round {
	known := 0
	for _, r := range l.known {
		if r.Origin == l.client {
			known++
		}
	}
	return l.journal[known:]
}

// pair is a system and a plain one, to both of which the same is done, a twin, to which all of it is done but what is refused, and the clients' lives.
type pair struct {
	c       api.Config
	s, twin *System
	p       *plain
	lives   []life // of each client, at its number less one
	log     []api.Round
}

// made is a new system.
func made(t *testing.T, c api.Config) *System {
	t.Helper()
	s, e := New(c)
	if e != api.OK || s == nil {
		t.Fatalf("New %+v: %v %d", c, s, e)
	}
	return s
}

func newPair(t *testing.T, c api.Config) *pair {
	t.Helper()
	x := &pair{c: c, s: made(t, c), twin: made(t, c), p: newPlain(c)}
	for i := range c.Clients {
		x.lives = append(x.lives, life{client: i + 1, epoch: 1})
	}
	return x
}

func begun(t *testing.T, c api.Config) *pair {
	t.Helper()
	x := newPair(t, c)
	x.holds(t, "begun")
	return x
}

// has: is that a client?
func (x *pair) has(client int) bool { return client >= 1 && client <= x.c.Clients }

// do: an act, which is answered as the plain system answers it, with just the fields that its kind has.
func (x *pair) do(t *testing.T, a api.Act) api.Reply {
	t.Helper()
	there := a.N >= 0 && a.N < len(x.p.flight)
	guess, known := x.guess(a)
	got, want := x.s.Do(a), x.p.do(a)
	if got != want || known && got != guess {
		t.Fatalf("%+v: %+v, not %+v, %+v", a, got, want, guess)
	}
	shaped(t, a, got)
	switch {
	case got.Err == api.OK:
		x.twin.Do(a)
		x.lived(t, a, got)
	case a.Kind == deliver && there: // it isn't there any more, but nothing else comes of it
		x.twin.Do(on(drop, a.N))
	}
	return got
}

// shaped looks whether a reply has no more than the document's table says of the act's kind.
func shaped(t *testing.T, a api.Act, r api.Reply) {
	t.Helper()
	may := api.Reply{Err: r.Err}
	if r.Err == api.OK {
		switch a.Kind {
		case read:
			may.Value, may.N, may.Err = r.Value, r.N, api.OK
		case push, pull, tick:
			may.N = r.N
		case confirm:
			may.Yes = r.Yes
		}
	}
	if r != may {
		t.Fatalf("%+v: %+v has more than its kind says", a, r)
	}
}

// guess is a client's reply as the rules of the protocol make it from the client's life, and whether they do.
func (x *pair) guess(a api.Act) (r api.Reply, ok bool) {
	if a.Kind < update || a.Kind > reset || !x.has(a.Node) {
		return r, false
	}
	l := &x.lives[a.Node-1]
	switch a.Kind {
	case update:
		r.Err = x.guessUpdate(l, a.Update)
	case read:
		state := replay.State(l.open, slices.Concat(l.known, l.pending())...)
		r.Value, r.N = state.Get(a.Key), state.Len()
	case push:
		switch {
		case len(l.open) == 0:
			r.Err = api.ErrNone
		case len(l.pending()) >= x.c.Push:
			r.Err = api.ErrFull
		case len(l.journal) >= x.c.Last:
			r.Err = api.ErrExhausted
		default:
			r.N = len(l.journal) + 1
		}
	case pull:
		r.N = x.s.Look(a.Node).Came
	case confirm:
		r.Yes = len(l.pending()) == 0 && len(l.open) == 0
	case reset:
		if l.epoch >= x.c.Last {
			r.Err = api.ErrExhausted
		}
	}
	return r, true
}

func (x *pair) guessUpdate(l *life, u api.Update) api.Errno {
	e := value.May(u)
	switch {
	case e != api.OK:
	case !round.Fits([]api.Update{u}, x.c.MTU):
		e = api.ErrLong
	case !round.Fits(append(slices.Clone(l.open), u), x.c.MTU):
		e = api.ErrFull
	}
	return e
}

// lived: what an act that was done makes of its client's life.
func (x *pair) lived(t *testing.T, a api.Act, r api.Reply) {
	t.Helper()
	if !x.has(a.Node) {
		return
	}
	l := &x.lives[a.Node-1]
	switch a.Kind {
	case update:
		l.open = append(l.open, a.Update)
	case push:
		l.journal, l.open = append(l.journal, of(a.Node, r.N, l.open...)), nil
	case reset:
		l.epoch, l.known, l.open = l.epoch+1, nil, nil
	case pull:
		log := x.s.Log()
		if len(l.known)+r.N > len(log) {
			t.Fatalf("client %d knew %d, and pulled %d more, of %d", a.Node, len(l.known), r.N, len(log))
		}
		l.known = log[:len(l.known)+r.N]
	}
}

// tells looks whether a call told those rounds.
func tells(t *testing.T, name string, got, want []api.Round) {
	t.Helper()
	if !slices.EqualFunc(got, want, same) {
		t.Fatalf("%s: %.300v, not %.300v", name, got, want)
	}
}

// holds looks whether all that the system tells is as its acts made it, and as P20.4 and P20.5 have it.
func (x *pair) holds(t *testing.T, name string) {
	t.Helper()
	x.common(t, name)
	for i, l := range x.lives {
		client := i + 1
		known := x.s.Known(client)
		tells(t, name+": Journal", x.s.Journal(client), l.journal)
		tells(t, name+": Known", known, l.known)
		tells(t, name+": Known, of the common order", known, x.log[:len(known)])
		look, n := x.s.Look(client), x.p.nodes[client].Look()
		if look != n || look != (api.Look{Epoch: l.epoch, Known: len(known), Pending: len(l.pending()), Open: len(l.open), Came: look.Came, Unacked: look.Unacked}) {
			t.Fatalf("%s: client %d: %+v, not %+v", name, client, look, n)
		}
		if look.Came > x.c.Pull || look.Unacked > x.c.Window || x.s.Unacked(client) > x.c.Window || x.s.Unacked(client) != x.p.s.Unacked(client) {
			t.Fatalf("%s: client %d: %+v, Unacked %d", name, client, look, x.s.Unacked(client))
		}
	}
	for _, client := range []int{0, -1, x.c.Clients + 1} {
		x.none(t, name, client)
	}
	x.onTheWay(t, name)
}

// common looks whether the common order only grew, and has of each client a beginning of what it pushed, in order, without gaps.
func (x *pair) common(t *testing.T, name string) {
	t.Helper()
	log := x.s.Log()
	if len(log) < len(x.log) {
		t.Fatalf("%s: %d rounds were common, and then %d", name, len(x.log), len(log))
	}
	tells(t, name+": Log, as it was", log[:len(x.log)], x.log)
	tells(t, name+": Log", log, x.p.s.Log())
	x.log = log
	next := make([]int, x.c.Clients)
	for _, r := range log {
		if !x.has(r.Origin) || next[r.Origin-1] == len(x.lives[r.Origin-1].journal) {
			t.Fatalf("%s: nobody pushed %v", name, r)
		}
		n := &next[r.Origin-1]
		if want := x.lives[r.Origin-1].journal[*n]; r.Number != *n+1 || !same(r, want) {
			t.Fatalf("%s: %v stands in the common order, not %v", name, r, want)
		}
		*n++
	}
}

// onTheWay looks whether the packets are those of the plain system, and none has more bytes than it may.
func (x *pair) onTheWay(t *testing.T, name string) {
	t.Helper()
	flight := x.s.Flight()
	if len(flight) != len(x.p.flight) || len(flight) > room {
		t.Fatalf("%s: %d packets are on their way, not %d", name, len(flight), len(x.p.flight))
	}
	for i, p := range flight {
		if p != x.p.flight[i].Packet || len(p.Bytes) > x.c.MTU {
			t.Fatalf("%s: packet %d: %+v, not %+v", name, i, p, x.p.flight[i])
		}
	}
}

// none looks whether there is nothing of what is no client.
func (x *pair) none(t *testing.T, name string, client int) {
	t.Helper()
	if x.s.Look(client) != (api.Look{}) || len(x.s.Known(client)) != 0 || len(x.s.Journal(client)) != 0 || x.s.Unacked(client) != 0 {
		t.Fatalf("%s: of %d, which is no client: %+v %v %v %d", name, client, x.s.Look(client), x.s.Known(client), x.s.Journal(client), x.s.Unacked(client))
	}
}

// unchanged looks whether what was refused left nothing behind, down to what is kept inside.
func (x *pair) unchanged(t *testing.T, name string) {
	t.Helper()
	x.holds(t, name)
	if !reflect.DeepEqual(x.s, x.twin) {
		t.Fatalf("%s: what was refused is to be seen inside", name)
	}
}

// is looks what an act is answered.
func (x *pair) is(t *testing.T, a api.Act, want api.Reply) {
	t.Helper()
	if got := x.do(t, a); got != want {
		t.Fatalf("%+v: %+v, not %+v", a, got, want)
	}
	x.holds(t, "an act")
}

// refuses looks whether an act is answered with that error and nothing else, and changes nothing.
func (x *pair) refuses(t *testing.T, want api.Errno, l ...api.Act) {
	t.Helper()
	for _, a := range l {
		if want == api.OK {
			t.Fatalf("the test's own fault: OK refuses nothing")
		}
		x.is(t, a, api.Reply{Err: want})
		x.unchanged(t, "refused")
	}
}

// done: acts that are answered without an error.
func (x *pair) done(t *testing.T, l ...api.Act) {
	t.Helper()
	for _, a := range l {
		if r := x.do(t, a); r.Err != api.OK {
			t.Fatalf("%+v: %+v", a, r)
		}
	}
	x.holds(t, "done")
}

// pushes: so many ordinary rounds of a client, or what is open, if something is.
func (x *pair) pushes(t *testing.T, client, many int) {
	t.Helper()
	for range many {
		l := &x.lives[client-1]
		if len(l.open) == 0 {
			for _, u := range list(client, len(l.journal)+1) {
				x.done(t, changes(client, u))
			}
		}
		x.is(t, at(push, client), api.Reply{N: len(l.journal) + 1})
	}
}

// ticks: a node sends, and so many packets go on their way.
func (x *pair) ticks(t *testing.T, node, many int) {
	t.Helper()
	x.is(t, at(tick, node), api.Reply{N: many})
}

// looks looks how a client stands.
func (x *pair) looks(t *testing.T, client int, want api.Look) {
	t.Helper()
	if l := x.s.Look(client); l != want {
		t.Fatalf("client %d: %+v, not %+v", client, l, want)
	}
}

// arrive: all packets that are on their way come, in order.
func (x *pair) arrive(t *testing.T) {
	t.Helper()
	for range len(x.p.flight) {
		x.do(t, on(deliver, 0))
	}
	x.holds(t, "all came")
}

// send: nodes send, and what they sent comes, one node behind the other.
func (x *pair) send(t *testing.T, nodes ...int) {
	t.Helper()
	for _, n := range nodes {
		x.done(t, at(tick, n))
		x.arrive(t)
	}
}

// turn: all nodes send, all comes, and all clients pull.
func (x *pair) turn(t *testing.T) {
	t.Helper()
	for n := range x.c.Clients + 1 {
		x.do(t, at(tick, n))
	}
	x.arrive(t)
	for n := range x.c.Clients {
		x.do(t, at(pull, n+1))
	}
}

// settles looks whether, once nothing more is lost, all that was pushed is common and known by all, who read the same.
func (x *pair) settles(t *testing.T) {
	t.Helper()
	many := 0
	for i := range x.lives {
		many += len(x.lives[i].journal)
	}
	for range 2*many + 2*(many-len(x.log)) + 8 {
		x.turn(t)
	}
	x.holds(t, "settled")
	if len(x.log) != many {
		t.Fatalf("%d rounds were pushed, and %d are common", many, len(x.log))
	}
	want := replay.State(nil, x.log...)
	for i, l := range x.lives {
		tells(t, "Known, at the end", x.s.Known(i+1), x.log)
		x.looks(t, i+1, api.Look{Epoch: l.epoch, Known: many, Open: len(l.open)})
		for _, key := range []string{"a", "s", "t", "k"} {
			if len(l.open) == 0 {
				x.is(t, reads(i+1, key), api.Reply{Value: want.Get(key), N: want.Len()})
			}
		}
	}
}

// carry: a packet that no node of this system sent is on its way.
func (x *pair) carry(p api.Packet) {
	x.s.flight.Add(p)
	x.twin.flight.Add(p)
	x.p.flight = append(x.p.flight, sent{Packet: p})
}
