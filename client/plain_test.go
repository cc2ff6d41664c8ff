package client

import (
	"math"
	"reflect"
	"slices"
	"strings"
	"testing"

	"chapbook/api"
	"chapbook/journal"
	"chapbook/replay"
	"chapbook/value"
)

const (
	maxLast  = 1 << 40  // the greatest number of a round
	least    = -1 << 61 // of the numbers that an update may have
	greatest = 1<<61 - 1
)

// The edges of an update's texts.
const (
	key16  = "\x00\xff234567890abcde"
	text32 = "\xff234567890123456789012345678901\x00"
	key17  = "12345678901234567"
	text33 = "123456789012345678901234567890123"
)

// set, put, add, app and del make updates.
func set(key string, n int64) api.Update { return api.Update{Key: key, Kind: api.USet, N: n} }
func put(key, s string) api.Update       { return api.Update{Key: key, Kind: api.UText, S: s} }
func add(key string, n int64) api.Update { return api.Update{Key: key, Kind: api.UAdd, N: n} }
func app(key, s string) api.Update       { return api.Update{Key: key, Kind: api.UAppend, S: s} }
func del(key string) api.Update          { return api.Update{Key: key, Kind: api.UDelete} }

// of makes a round.
func of(origin, number int, l ...api.Update) api.Round {
	return api.Round{Origin: origin, Number: number, Updates: l}
}

// list is the updates that the tests have at a number, other ones at each; what they make hangs on their order.
func list(number int) []api.Update {
	l := []api.Update{add("a", int64(number)), app("t", string(rune('a'+number%26))), set("s", int64(number)), del("s"), put("u", "u")}
	return l[number%2 : 2+number%4]
}

// ordinary is the round that the tests have of an origin and a number.
func ordinary(origin, number int) api.Round { return of(origin, number, list(7*origin+number)...) }

// same tells by its own means whether two rounds are alike.
func same(a, b api.Round) bool {
	return a.Origin == b.Origin && a.Number == b.Number && slices.Equal(a.Updates, b.Updates)
}

// width is how many bytes a signed number has.
func width(n int64) int {
	for _, bytes := range []int{1, 2, 4} {
		if most := int64(1) << (8*bytes - 3); n >= -most && n < most {
			return bytes
		}
	}
	return 8
}

// size is how many bytes the fields of an update have.
func size(u api.Update) int {
	n := 2 + len(u.Key)
	switch u.Kind {
	case api.USet, api.UAdd:
		return n + width(u.N)
	case api.UText, api.UAppend:
		return n + 1 + len(u.S)
	}
	return n
}

// fits tells by its own means whether updates that may be make a round that isn't too long.
func fits(mtu int, l ...api.Update) bool {
	n := 40 + 2 + 8 + 1 // the spare bytes, the origin's, the number's, and that of how many updates there are
	for _, u := range l {
		n += size(u)
	}
	return len(l) <= 8 && n <= mtu && mtu >= 64 && mtu <= 1400
}

// config is what a client is made of.
type config struct {
	origin, mtu, push, last int
	ahead                   int // how many ordinary rounds its journal has at New
}

// usual is an ordinary one.
func usual() config { return config{origin: 2, mtu: 1400, push: 3, last: maxLast} }

// plain is a client, with its journal, by the tests' own means.
type plain struct {
	config
	journal, known, pending []api.Round
	open                    []api.Update
}

func newPlain(c config) *plain {
	p := &plain{config: c}
	for n := 1; n <= c.ahead; n++ {
		p.journal = append(p.journal, ordinary(c.origin, n))
	}
	p.resume()
	return p
}

func (p *plain) update(u api.Update) api.Errno {
	e := value.May(u)
	switch {
	case e != api.OK:
		return e
	case !fits(p.mtu, u):
		return api.ErrLong
	case !fits(p.mtu, append(slices.Clone(p.open), u)...):
		return api.ErrFull
	}
	p.open = append(p.open, u)
	return api.OK
}

// counts is as how many rounds a push counts.
func counts(push int) int {
	switch {
	case push < 1:
		return 1
	case push > 16:
		return 16
	}
	return push
}

func (p *plain) doPush() (api.Round, api.Errno) {
	switch {
	case len(p.open) == 0:
		return api.Round{}, api.ErrNone
	case len(p.pending) >= counts(p.push):
		return api.Round{}, api.ErrFull
	case len(p.journal) == p.last:
		return api.Round{}, api.ErrExhausted
	case p.origin < 1 || p.origin > 64:
		return api.Round{}, api.ErrRange
	}
	r := of(p.origin, len(p.journal)+1, p.open...)
	p.journal, p.pending, p.open = append(p.journal, r), append(p.pending, r), nil
	return r, api.OK
}

func (p *plain) take(r api.Round) api.Errno {
	if r.Origin == p.origin {
		if len(p.pending) == 0 || p.pending[0].Number != r.Number {
			return api.ErrOrder
		}
		p.pending = p.pending[1:]
	}
	r.Updates = slices.Clone(r.Updates)
	p.known = append(p.known, r)
	return api.OK
}

func (p *plain) resume() { p.known, p.pending, p.open = nil, slices.Clone(p.journal), nil }

// pair is a client and a plain one, to both of which the same is done, and a twin, to which all of it is done but what is refused.
type pair struct {
	j, twinJournal *journal.Journal
	c, twin        *Client
	p              *plain
}

// filled is a journal that has ordinary rounds, so many as the configuration says.
func filled(t *testing.T, c config) *journal.Journal {
	t.Helper()
	j := journal.New(c.origin, c.last)
	for n := 1; n <= c.ahead; n++ {
		if _, e := j.Add(ordinary(c.origin, n).Updates); e != api.OK {
			t.Fatalf("the test's own fault: no journal: %d", e)
		}
	}
	return j
}

func begun(t *testing.T, c config) *pair {
	t.Helper()
	x := &pair{j: filled(t, c), twinJournal: filled(t, c), p: newPlain(c)}
	x.c, x.twin = New(x.j, c.origin, c.mtu, c.push), New(x.twinJournal, c.origin, c.mtu, c.push)
	x.holds(t, "begun")
	return x
}

// The four calls that change something: each is done to all three, and looked at.

func (x *pair) update(t *testing.T, u api.Update) api.Errno {
	t.Helper()
	e, want := x.c.Update(u), x.p.update(u)
	if e != want {
		t.Fatalf("Update %+v, of mtu %d, behind %d open ones: %d, not %d", u, x.p.mtu, len(x.p.open), e, want)
	}
	if want == api.OK {
		x.twin.Update(u)
	}
	return e
}

func (x *pair) push(t *testing.T) api.Errno {
	t.Helper()
	r, e := x.c.Push()
	want, wantErr := x.p.doPush()
	if !same(r, want) || e != wantErr {
		t.Fatalf("Push: %v %d, not %v %d", r, e, want, wantErr)
	}
	if wantErr == api.OK {
		x.twin.Push()
	}
	return e
}

func (x *pair) take(t *testing.T, r api.Round) api.Errno {
	t.Helper()
	e, want := x.c.Take(r), x.p.take(r)
	if e != want {
		t.Fatalf("Take %.60v: %d, not %d", r, e, want)
	}
	if want == api.OK {
		x.twin.Take(r)
	}
	return e
}

func (x *pair) resume() {
	x.c.Resume()
	x.p.resume()
	x.twin.Resume()
}

// keys are those that the tests read: those that updates change, and others.
func keys() []string {
	return []string{"a", "b", "c", "s", "t", "u", "k", "", "none", key16, key17, "a\x00", "aa", strings.Repeat("a", 5000)}
}

// reads looks whether all is read as those updates and rounds make it, by layer 8.
func (x *pair) reads(t *testing.T, name string, open []api.Update, rounds []api.Round) {
	t.Helper()
	want := replay.State(open, rounds...)
	for _, key := range keys() {
		if v := x.c.Read(key); v != want.Get(key) {
			t.Fatalf("%s: Read %.20q: %+v, not %+v", name, key, v, want.Get(key))
		}
	}
	if n := x.c.Len(); n != want.Len() {
		t.Fatalf("%s: Len %d, not %d", name, n, want.Len())
	}
}

// tells looks whether a call told those rounds.
func tells(t *testing.T, name string, got, want []api.Round) {
	t.Helper()
	if !slices.EqualFunc(got, want, same) {
		t.Fatalf("%s: %.60v, not %.60v", name, got, want)
	}
}

// holds looks whether all stands as with the plain one, and is read as what is known, and behind it what is pending and open, makes it.
func (x *pair) holds(t *testing.T, name string) {
	t.Helper()
	known, pending, open := x.c.Known(), x.c.Pending(), x.c.Open()
	tells(t, name+": Known", known, x.p.known)
	tells(t, name+": Pending", pending, x.p.pending)
	if !slices.Equal(open, x.p.open) {
		t.Fatalf("%s: Open %v, not %v", name, open, x.p.open)
	}
	if yes := x.c.Confirmed(); yes != (len(x.p.pending) == 0 && len(x.p.open) == 0) {
		t.Fatalf("%s: Confirmed %t, with %d pending, %d open", name, yes, len(x.p.pending), len(x.p.open))
	}
	tells(t, name+": the journal", x.j.From(0), x.p.journal)
	x.reads(t, name, open, slices.Concat(known, pending))
}

// unchanged looks whether what was refused left nothing behind, down to what is kept inside.
func (x *pair) unchanged(t *testing.T, name string) {
	t.Helper()
	x.holds(t, name)
	if !reflect.DeepEqual(x.c, x.twin) { // their journals too
		t.Fatalf("%s: what was refused is to be seen inside", name)
	}
}

// updates looks whether each of these comes to be open.
func (x *pair) updates(t *testing.T, l ...api.Update) {
	t.Helper()
	for _, u := range l {
		if e := x.update(t, u); e != api.OK {
			t.Fatalf("Update %+v: %d", u, e)
		}
		x.holds(t, "Update")
	}
}

// pushes looks whether so many ordinary lists come to be pushed, each behind its updates.
func (x *pair) pushes(t *testing.T, many int) {
	t.Helper()
	for range many {
		if len(x.p.open) == 0 {
			x.updates(t, ordinary(x.p.origin, len(x.p.journal)+1).Updates...)
		}
		if e := x.push(t); e != api.OK {
			t.Fatalf("Push: %d", e)
		}
		x.holds(t, "Push")
	}
}

// takes looks whether each of these comes to be known.
func (x *pair) takes(t *testing.T, l ...api.Round) {
	t.Helper()
	for _, r := range l {
		if e := x.take(t, r); e != api.OK {
			t.Fatalf("Take %.60v: %d", r, e)
		}
		x.holds(t, "Take")
	}
}

// takesOwn: so many of its pending rounds.
func (x *pair) takesOwn(t *testing.T, many int) {
	t.Helper()
	x.takes(t, slices.Clone(x.p.pending[:many])...)
}

// resumes: it lost all but its journal.
func (x *pair) resumes(t *testing.T) {
	t.Helper()
	x.resume()
	x.holds(t, "Resume")
}

// refusesUpdate, refusesPush and refusesTake look whether a call answers that error, and changes nothing.

func (x *pair) refusesUpdate(t *testing.T, u api.Update, want api.Errno) {
	t.Helper()
	if e := x.update(t, u); e != want || e == api.OK {
		t.Fatalf("Update %+v, of mtu %d, behind %d open ones: %d, not %d", u, x.p.mtu, len(x.p.open), e, want)
	}
	x.unchanged(t, "a refused Update")
}

func (x *pair) refusesPush(t *testing.T, want api.Errno) {
	t.Helper()
	if e := x.push(t); e != want || e == api.OK {
		t.Fatalf("Push, with %d open, %d pending: %d, not %d", len(x.p.open), len(x.p.pending), e, want)
	}
	x.unchanged(t, "a refused Push")
}

func (x *pair) refusesTake(t *testing.T, l ...api.Round) {
	t.Helper()
	for _, r := range l {
		if e := x.take(t, r); e != api.ErrOrder {
			t.Fatalf("Take %.60v, with %d pending: %d", r, len(x.p.pending), e)
		}
		x.unchanged(t, "a refused Take")
	}
}

// far are numbers that are far from all that a client has here, with such as would be near, if some of their bits were lost.
func far() []int {
	return []int{math.MaxInt, math.MaxInt - 1, 1 << 62, 1<<62 + 1, maxLast, maxLast + 1, maxLast + 2, 1 << 32, 1<<32 + 1, 1<<32 + 2, 1<<16 + 1, 1<<31 + 1,
		-1, -2, -3, -255, -1 << 16, 1 - 1<<32, 2 - 1<<32, -maxLast, -1 << 62, math.MinInt + 2, math.MinInt + 1, math.MinInt}
}
