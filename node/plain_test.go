package node

import (
	"reflect"
	"slices"
	"testing"

	"chapbook/api"
	"chapbook/frame"
	"chapbook/prefix"
	"chapbook/replay"
	"chapbook/round"
	"chapbook/value"
)

const (
	maxLast = 1 << 40 // the greatest epoch, and the greatest number of a round
	maxSeq  = 1 << 50 // the greatest number of a piece
)

// set, put, add, app and del make updates.
func set(key string, n int64) api.Update { return api.Update{Key: key, Kind: api.USet, N: n} }
func put(key, s string) api.Update       { return api.Update{Key: key, Kind: api.UText, S: s} }
func add(key string, n int64) api.Update { return api.Update{Key: key, Kind: api.UAdd, N: n} }
func app(key, s string) api.Update       { return api.Update{Key: key, Kind: api.UAppend, S: s} }
func del(key string) api.Update          { return api.Update{Key: key, Kind: api.UDelete} }

// of makes a round.
func of(origin, number int, l ...api.Update) api.Round {
	return api.Round{Origin: origin, Number: number, Updates: l}
}

// list is the updates that the tests have of an origin and a number, other ones of each, two at most; what they make hangs on their order, and they fit with each mtu.
func list(origin, number int) []api.Update {
	l := []api.Update{add("a", int64(number%9)), app("t", string(rune('a'+(5*origin+number)%26))), set("s", int64(origin)), del("s")}
	return l[number%3 : number%3+1+number%2]
}

// ordinary is the round that the tests have of an origin and a number.
func ordinary(origin, number int) api.Round { return of(origin, number, list(origin, number)...) }

// filled is an origin's ordinary rounds, from a number to another one.
func filled(origin, from, to int) []api.Round {
	var l []api.Round
	for number := from; number <= to; number++ {
		l = append(l, ordinary(origin, number))
	}
	return l
}

// same tells by its own means whether two rounds are alike.
func same(a, b api.Round) bool {
	return a.Origin == b.Origin && a.Number == b.Number && slices.Equal(a.Updates, b.Updates)
}

// bytesOf is a round's bytes.
func bytesOf(r api.Round) string {
	b, e := round.Put(r)
	if e != api.OK {
		panic("the test's own fault: no round")
	}
	return b
}

// number: a number's bytes.
func number(n int) string {
	b, e := prefix.Put(uint64(n))
	if e != api.OK {
		panic("the test's own fault: no number")
	}
	return b
}

// datagram: a frame's.
func datagram(f api.Frame) string {
	b, e := frame.Put(f, api.MaxMTU)
	if e != api.OK {
		panic("the test's own fault: no frame")
	}
	return b
}

// usual is an ordinary configuration.
func usual() api.Config {
	return api.Config{Clients: 3, Window: 2, Push: 3, Pull: 4, MTU: 64, Last: 1000}
}

// plain is a node by the tests' own means, that hears frames, and not their bytes.
type plain struct {
	c                       api.Config
	origin, epoch           int
	journal, known, pending []api.Round
	open                    []api.Update
	offered, acked          int // so many of the journal's rounds, and so many of these
	taken                   int // the number of the last piece that was taken
	waiting                 []string
}

func newPlain(c api.Config, origin int) *plain { return &plain{c: c, origin: origin, epoch: 1} }

// fits: do updates that may be make a round that isn't too long?
func (p *plain) fits(l []api.Update) bool {
	if len(l) > 8 {
		return false
	}
	return len(bytesOf(of(64, maxLast, l...))) <= p.c.MTU-40
}

func (p *plain) update(u api.Update) api.Errno {
	e := value.May(u)
	switch {
	case e != api.OK:
		return e
	case !p.fits([]api.Update{u}):
		return api.ErrLong
	case !p.fits(append(slices.Clone(p.open), u)):
		return api.ErrFull
	}
	p.open = append(p.open, u)
	return api.OK
}

func (p *plain) push() (int, api.Errno) {
	switch {
	case len(p.open) == 0:
		return 0, api.ErrNone
	case len(p.pending) >= p.c.Push:
		return 0, api.ErrFull
	case len(p.journal) == p.c.Last:
		return 0, api.ErrExhausted
	}
	r := of(p.origin, len(p.journal)+1, p.open...)
	p.journal, p.pending, p.open = append(p.journal, r), append(p.pending, r), nil
	return r.Number, api.OK
}

func (p *plain) hear(f api.Frame) api.Errno {
	if f.Epoch != p.epoch {
		return api.ErrStale
	}
	if f.Ack <= p.offered {
		p.acked = max(p.acked, f.Ack)
	}
	if f.Seq == p.taken+1 && len(p.waiting) < p.c.Pull {
		p.taken++
		p.waiting = append(p.waiting, f.Data)
	}
	return api.OK
}

func (p *plain) pull() int {
	before := len(p.known)
	for _, data := range p.waiting {
		if r, e := round.Get(data); e == api.OK {
			p.take(r)
		}
	}
	p.waiting = nil
	return len(p.known) - before
}

// take: a round is known, but if it is its own, and not the first that is pending.
func (p *plain) take(r api.Round) {
	if r.Origin == p.origin {
		if len(p.pending) == 0 || p.pending[0].Number != r.Number {
			return
		}
		p.pending = p.pending[1:]
	}
	p.known = append(p.known, r)
}

func (p *plain) reset() api.Errno {
	if p.epoch == p.c.Last {
		return api.ErrExhausted
	}
	*p = plain{c: p.c, origin: p.origin, epoch: p.epoch + 1, journal: p.journal, pending: slices.Clone(p.journal)}
	return api.OK
}

func (p *plain) tick() []api.Packet {
	p.offered = min(len(p.journal), p.acked+p.c.Window)
	var l []api.Packet
	send := func(f api.Frame) {
		f.Epoch, f.Ack = p.epoch, p.taken
		l = append(l, api.Packet{From: p.origin, To: 0, Bytes: datagram(f)})
	}
	for i := p.acked; i < p.offered; i++ {
		send(api.Frame{Seq: i + 1, Data: bytesOf(p.journal[i])})
	}
	if len(l) == 0 {
		send(api.Frame{})
	}
	return l
}

func (p *plain) look() api.Look {
	return api.Look{Epoch: p.epoch, Known: len(p.known), Pending: len(p.pending), Open: len(p.open), Came: len(p.waiting), Unacked: p.offered - p.acked}
}

// pair is a node and a plain one, to both of which the same is done, and a twin, to which all of it is done but what is refused.
type pair struct {
	n, twin *Node
	p       *plain
}

// made is a new node.
func made(t *testing.T, c api.Config, origin int) *Node {
	t.Helper()
	n, e := New(c, origin)
	if e != api.OK || n == nil {
		t.Fatalf("New %+v, %d: %v %d", c, origin, n, e)
	}
	return n
}

func begun(t *testing.T, c api.Config, origin int) *pair {
	t.Helper()
	x := &pair{made(t, c, origin), made(t, c, origin), newPlain(c, origin)}
	x.holds(t, "begun")
	return x
}

// looks looks whether it stands as the plain one.
func (x *pair) looks(t *testing.T, name string) {
	t.Helper()
	if l, want := x.n.Look(), x.p.look(); l != want {
		t.Fatalf("%s: Look %+v, not %+v", name, l, want)
	}
}

// tells looks whether a call told those rounds.
func tells(t *testing.T, name string, got, want []api.Round) {
	t.Helper()
	if !slices.EqualFunc(got, want, same) {
		t.Fatalf("%s: %.100v, not %.100v", name, got, want)
	}
}

// keys are those that the tests read: those that updates change, and others.
func keys() []string { return []string{"a", "s", "t", "u", "k", "", "none", "0123456789abcdef", "aa"} }

// holds looks whether all stands as with the plain one, and is read as what is known, and behind it what is pending and open, makes it.
func (x *pair) holds(t *testing.T, name string) {
	t.Helper()
	x.looks(t, name)
	tells(t, name+": Known", x.n.Known(), x.p.known)
	tells(t, name+": Journal", x.n.Journal(), x.p.journal)
	if yes := x.n.Confirmed(); yes != (len(x.p.pending) == 0 && len(x.p.open) == 0) {
		t.Fatalf("%s: Confirmed %t, with %d pending, %d open", name, yes, len(x.p.pending), len(x.p.open))
	}
	want := replay.State(x.p.open, slices.Concat(x.p.known, x.p.pending)...)
	for _, key := range keys() {
		if v := x.n.Read(key); v != want.Get(key) {
			t.Fatalf("%s: Read %q: %+v, not %+v", name, key, v, want.Get(key))
		}
	}
	if n := x.n.Len(); n != want.Len() {
		t.Fatalf("%s: Len %d, not %d", name, n, want.Len())
	}
}

// unchanged looks whether what was refused left nothing behind, down to what is kept inside.
func (x *pair) unchanged(t *testing.T, name string) {
	t.Helper()
	x.holds(t, name)
	if !reflect.DeepEqual(x.n, x.twin) {
		t.Fatalf("%s: what was refused is to be seen inside", name)
	}
}

// The six calls that change something: each is done to all three, and its answer is looked at.

func (x *pair) update(t *testing.T, u api.Update) api.Errno {
	t.Helper()
	e, want := x.n.Update(u), x.p.update(u)
	if e != want {
		t.Fatalf("Update %+v, of mtu %d, behind %d open ones: %d, not %d", u, x.p.c.MTU, len(x.p.open), e, want)
	}
	if want == api.OK {
		x.twin.Update(u)
	}
	x.looks(t, "Update")
	return e
}

func (x *pair) push(t *testing.T) api.Errno {
	t.Helper()
	n, e := x.n.Push()
	if want, wantErr := x.p.push(); n != want || e != wantErr {
		t.Fatalf("Push: %d %d, not %d %d", n, e, want, wantErr)
	}
	if e == api.OK {
		x.twin.Push()
	}
	x.looks(t, "Push")
	return e
}

func (x *pair) hear(t *testing.T, f api.Frame) api.Errno {
	t.Helper()
	b, want := datagram(f), x.p.hear(f)
	if e := x.n.Hear(b); e != want {
		t.Fatalf("Hear %+v, in the epoch %d: %d, not %d", f, x.p.epoch, e, want)
	}
	if want == api.OK {
		x.twin.Hear(b)
	}
	x.looks(t, "Hear")
	return want
}

func (x *pair) pull(t *testing.T) int {
	t.Helper()
	n, want := x.n.Pull(), x.p.pull()
	if n != want {
		t.Fatalf("Pull: %d, not %d", n, want)
	}
	x.twin.Pull()
	x.looks(t, "Pull")
	return n
}

func (x *pair) reset(t *testing.T) api.Errno {
	t.Helper()
	e, want := x.n.Reset(), x.p.reset()
	if e != want {
		t.Fatalf("Reset, in the epoch %d of %d: %d, not %d", x.p.epoch, x.p.c.Last, e, want)
	}
	if want == api.OK {
		x.twin.Reset()
	}
	x.looks(t, "Reset")
	return e
}

func (x *pair) tick(t *testing.T) []api.Packet {
	t.Helper()
	got, want, twin := x.n.Tick(), x.p.tick(), x.twin.Tick()
	if !slices.Equal(got, want) || !slices.Equal(twin, want) {
		t.Fatalf("Tick: %x, and the twin's %x, not %x", got, twin, want)
	}
	x.looks(t, "Tick")
	x.framed(t, got)
	return got
}

// framed looks whether packets are from the node to 0, and frames of its epoch, at least one, at most as many as the window, of at most mtu bytes, one behind the other.
func (x *pair) framed(t *testing.T, l []api.Packet) {
	t.Helper()
	if len(l) < 1 || len(l) > x.p.c.Window {
		t.Fatalf("Tick: %d packets, with the window %d", len(l), x.p.c.Window)
	}
	for i, p := range l {
		f, e := frame.Get(p.Bytes)
		if e != api.OK || p.From != x.p.origin || p.To != 0 || len(p.Bytes) > x.p.c.MTU || f.Epoch != x.n.Look().Epoch {
			t.Fatalf("Tick: the packet %d, from %d to %d, of %d bytes: %+v %d", i, p.From, p.To, len(p.Bytes), f, e)
		}
		if first, _ := frame.Get(l[0].Bytes); f.Ack != first.Ack || f.Seq != 0 && f.Seq != first.Seq+i || f.Seq == 0 && len(l) > 1 {
			t.Fatalf("Tick: the packet %d: %+v, the first one %+v", i, f, first)
		}
	}
}

// updates looks whether each of these comes to be open.
func (x *pair) updates(t *testing.T, l ...api.Update) {
	t.Helper()
	for _, u := range l {
		if e := x.update(t, u); e != api.OK {
			t.Fatalf("Update %+v: %d", u, e)
		}
	}
	x.holds(t, "Update")
}

// pushes looks whether so many ordinary rounds come to be pushed, or what is open, if something is.
func (x *pair) pushes(t *testing.T, many int) {
	t.Helper()
	for range many {
		if len(x.p.open) == 0 {
			x.updates(t, list(x.p.origin, len(x.p.journal)+1)...)
		}
		if e := x.push(t); e != api.OK {
			t.Fatalf("Push: %d", e)
		}
	}
	x.holds(t, "Push")
}

// come: these are the next pieces, in its epoch; all of them are taken.
func (x *pair) come(t *testing.T, rounds ...api.Round) {
	t.Helper()
	for _, r := range rounds {
		x.piece(t, bytesOf(r))
	}
}

// piece: data is the next piece, in its epoch, and is taken.
func (x *pair) piece(t *testing.T, data string) {
	t.Helper()
	before := x.n.Look().Came
	x.hear(t, api.Frame{Epoch: x.p.epoch, Seq: x.p.taken + 1, Ack: x.p.acked, Data: data})
	if n := x.n.Look().Came; n != before+1 {
		t.Fatalf("%d wait, and then %d", before, n)
	}
}

// ack: the sequencer tells that so many more came.
func (x *pair) ack(t *testing.T, many int) {
	t.Helper()
	x.hear(t, api.Frame{Epoch: x.p.epoch, Ack: x.p.acked + many})
}

// pulls looks whether a Pull makes so many rounds known, behind those that were, and leaves nothing that waits.
func (x *pair) pulls(t *testing.T, many int) {
	t.Helper()
	before := x.n.Known()
	if n := x.pull(t); n != many || x.n.Look().Came != 0 {
		t.Fatalf("Pull: %d, not %d; %d wait", n, many, x.n.Look().Came)
	}
	after := x.n.Known()
	if len(after) != len(before)+many {
		t.Fatalf("Pull: %d known, and then %d", len(before), len(after))
	}
	tells(t, "Pull: what was known", after[:len(before)], before)
	x.holds(t, "Pull")
}

// resets looks whether a Reset leaves just the journal, in the next epoch.
func (x *pair) resets(t *testing.T) {
	t.Helper()
	before, journal := x.n.Look(), x.n.Journal()
	if e := x.reset(t); e != api.OK {
		t.Fatalf("Reset: %d", e)
	}
	if l := x.n.Look(); l != (api.Look{Epoch: before.Epoch + 1, Pending: len(journal)}) {
		t.Fatalf("Reset: %+v", l)
	}
	tells(t, "Reset: Journal", x.n.Journal(), journal)
	x.holds(t, "Reset")
}

// The refuses look whether a call answers that error, and changes nothing.

func (x *pair) refusesUpdate(t *testing.T, u api.Update, want api.Errno) {
	t.Helper()
	if e := x.update(t, u); e != want || e == api.OK {
		t.Fatalf("Update %+v, of mtu %d, behind %d open ones: %d, not %d", u, x.p.c.MTU, len(x.p.open), e, want)
	}
	x.unchanged(t, "a refused Update")
}

func (x *pair) refusesPush(t *testing.T, want api.Errno) {
	t.Helper()
	if e := x.push(t); e != want || e == api.OK {
		t.Fatalf("Push, with %d open, %d pending: %d, not %d", len(x.p.open), len(x.p.pending), e, want)
	}
	x.unchanged(t, "a refused Push")
}

func (x *pair) refusesHear(t *testing.T, b string, want api.Errno) {
	t.Helper()
	if e := x.n.Hear(b); e != want || e == api.OK {
		t.Fatalf("Hear %x: %d, not %d", b, e, want)
	}
	x.unchanged(t, "a refused Hear")
}

func (x *pair) refusesReset(t *testing.T) {
	t.Helper()
	if e := x.reset(t); e != api.ErrExhausted {
		t.Fatalf("Reset, in the epoch %d: %d", x.p.epoch, e)
	}
	x.unchanged(t, "a refused Reset")
}
