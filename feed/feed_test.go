package feed

import (
	"math"
	"slices"
	"strconv"
	"testing"

	"chapbook/api"
	"chapbook/commit"
	"chapbook/link"
	"chapbook/round"
	"chapbook/sender"
)

const maxEpoch = 1 << 40 // the greatest epoch

// of makes a round.
func of(origin, number int, l ...api.Update) api.Round {
	return api.Round{Origin: origin, Number: number, Updates: l}
}

// ordinary is the round that the tests have of an origin and a number, with other updates at each.
func ordinary(origin, number int) api.Round {
	return of(origin, number,
		api.Update{Key: "n", Kind: api.UAdd, N: int64(number)},
		api.Update{Key: "key", Kind: api.UText, S: strconv.Itoa(origin) + " " + strconv.Itoa(number)})
}

// mixed is so many ordinary rounds of the origins 1 to 5, in turns of their own, each origin's in the order of its numbers.
func mixed(many int) []api.Round {
	var l []api.Round
	var lasts [6]int
	for i := range many {
		origin := (i*i+i/3)%5 + 1
		lasts[origin]++
		l = append(l, ordinary(origin, lasts[origin]))
	}
	return l
}

// made is a log of these rounds.
func made(t *testing.T, rounds ...api.Round) *commit.Log {
	t.Helper()
	l := commit.New(64)
	for _, r := range rounds {
		if e := l.Add(r); e != api.OK {
			t.Fatalf("Add %#v: %d", r, e)
		}
	}
	return l
}

// bytesOf is a round's bytes.
func bytesOf(t *testing.T, r api.Round) string {
	t.Helper()
	b, e := round.Put(r)
	if e != api.OK {
		t.Fatalf("Put %#v: %d", r, e)
	}
	return b
}

// plain is a log, a link and a feed between them by the tests' own means: what the link took in its epoch, and how many of these are acknowledged, and gone.
type plain struct {
	rounds        []api.Round
	epoch, window int
	passive       bool
	offered       []string
	acked         int
	at            int
}

// pump: so many of the log's rounds as there are, and as the window has room for, are offered.
func (p *plain) pump(t *testing.T) int {
	t.Helper()
	many := max(0, min(len(p.rounds)-p.at, p.window-len(p.offered)+p.acked))
	for range many {
		p.offered = append(p.offered, bytesOf(t, p.rounds[p.at]))
		p.at++
	}
	return many
}

func (p *plain) hear(f api.Frame) {
	if f.Epoch > p.epoch && p.passive {
		p.epoch, p.offered, p.acked = f.Epoch, nil, 0
	}
	if f.Epoch == p.epoch && f.Ack <= len(p.offered) {
		p.acked = max(p.acked, f.Ack)
	}
}

// frames are those that the link tells, if nothing ever came to it but acknowledgements.
func (p *plain) frames() []api.Frame {
	if p.epoch == 0 {
		return nil
	}
	var l []api.Frame
	for i := p.acked; i < len(p.offered); i++ {
		l = append(l, api.Frame{Epoch: p.epoch, Seq: i + 1, Data: p.offered[i]})
	}
	if len(l) == 0 {
		l = append(l, api.Frame{Epoch: p.epoch})
	}
	return l
}

// fed is a log, a link and a feed, and a plain one of these, to both of which the same is done.
type fed struct {
	l *commit.Log
	k *link.Link
	f *Feed
	p *plain
}

// begun is a log of these rounds, a fresh link that counts as of that epoch and window, and a new feed.
func begun(t *testing.T, epoch, window int, passive bool, rounds ...api.Round) *fed {
	t.Helper()
	x := &fed{made(t, rounds...), link.New(epoch, window, 16, passive), New(),
		&plain{rounds: slices.Clone(rounds), epoch: epoch, window: window, passive: passive}}
	x.holds(t, "begun")
	return x
}

// holds looks whether all stands as the plain one: the feed's place, the log's rounds, and what the link has.
func (x *fed) holds(t *testing.T, name string) {
	t.Helper()
	if n := x.f.At(); n != x.p.at {
		t.Fatalf("%s: At %d, not %d", name, n, x.p.at)
	}
	if all := x.l.All(); !slices.EqualFunc(all, x.p.rounds, round.Same) {
		t.Fatalf("%s: the log: %#v, not %#v", name, all, x.p.rounds)
	}
	if n := x.k.Unacked(); n != len(x.p.offered)-x.p.acked {
		t.Fatalf("%s: Unacked %d, not %d", name, n, len(x.p.offered)-x.p.acked)
	}
	if f, want := x.k.Frames(), x.p.frames(); !slices.Equal(f, want) {
		t.Fatalf("%s: Frames %#v, not %#v", name, f, want)
	}
	if e, n := x.k.Epoch(), x.k.Waiting(); e != x.p.epoch || n != 0 {
		t.Fatalf("%s: Epoch %d, not %d, and %d wait", name, e, x.p.epoch, n)
	}
}

// pump answers how many were taken, when that is right, and the link has just so many more.
func (x *fed) pump(t *testing.T) int {
	t.Helper()
	at, unacked, want := x.f.At(), x.k.Unacked(), x.p.pump(t)
	if n := x.f.Pump(x.l, x.k); n != want {
		t.Fatalf("Pump: %d, not %d (at %d of %d rounds, %d unacknowledged, window %d)", n, want, at, x.l.Len(), unacked, x.p.window)
	}
	if n, more := x.f.At()-at, x.k.Unacked()-unacked; n != want || more != want {
		t.Fatalf("Pump: %d, but the place is %d more, and the link has %d more", want, n, more)
	}
	x.holds(t, "pumped")
	return want
}

// pumps looks whether so many are taken.
func (x *fed) pumps(t *testing.T, want int) {
	t.Helper()
	if n := x.pump(t); n != want {
		t.Fatalf("Pump: %d, not %d (at %d of %d rounds)", n, want, x.f.At(), x.l.Len())
	}
}

// ends looks whether nothing is taken, however often it is asked.
func (x *fed) ends(t *testing.T) {
	t.Helper()
	for range 3 {
		x.pumps(t, 0)
	}
}

func (x *fed) add(t *testing.T, rounds ...api.Round) {
	t.Helper()
	for _, r := range rounds {
		if e := x.l.Add(r); e != api.OK {
			t.Fatalf("Add %#v: %d", r, e)
		}
		x.p.rounds = append(x.p.rounds, r)
	}
	x.holds(t, "added")
}

func (x *fed) hear(t *testing.T, f api.Frame) {
	t.Helper()
	x.p.hear(f)
	x.k.Hear(f)
	x.holds(t, "heard")
}

// ack: so many more are acknowledged.
func (x *fed) ack(t *testing.T, many int) {
	t.Helper()
	x.hear(t, api.Frame{Epoch: x.p.epoch, Ack: x.p.acked + many})
}

// ackAll: all are.
func (x *fed) ackAll(t *testing.T) {
	t.Helper()
	x.ack(t, len(x.p.offered)-x.p.acked)
	if n := x.k.Unacked(); n != 0 {
		t.Fatalf("%d aren't acknowledged", n)
	}
}

func (x *fed) reset(t *testing.T) {
	t.Helper()
	x.f.Reset()
	x.p.at = 0
	x.holds(t, "reset")
}

// relink: a fresh link stands in the old one's place.
func (x *fed) relink(t *testing.T, epoch int) {
	t.Helper()
	x.k = link.New(epoch, x.p.window, 16, x.p.passive)
	x.p.epoch, x.p.offered, x.p.acked = epoch, nil, 0
	x.holds(t, "a fresh link")
}

// drain pumps and acknowledges, till all rounds were taken.
func (x *fed) drain(t *testing.T) {
	t.Helper()
	for x.f.At() < x.l.Len() {
		x.ackAll(t)
		x.pumps(t, min(x.p.window, x.l.Len()-x.f.At()))
	}
	x.ackAll(t)
	x.ends(t)
}

// nearer: windows, and as which they count.
func nearer() map[int]int {
	m := map[int]int{0: 1, -1: 1, -16: 1, -17: 1, math.MinInt: 1, math.MinInt + 1: 1, -1 << 32: 1, 17: 16, 18: 16, 32: 16, 1 << 16: 16, 1<<32 + 3: 16, 1<<62 + 1: 16, math.MaxInt: 16}
	for n := 1; n <= 16; n++ {
		m[n] = n
	}
	return m
}

// stray: acknowledgements of what a link, that took some 1000 pieces at most, never sent, or of nothing.
func stray() []int {
	return []int{-1, -2, -16, -17, -1 << 32, -1 << 50, math.MinInt, math.MinInt + 1, 0, 9999, 1 << 16, 1 << 32, 1<<32 + 1, 1 << 50, 1<<50 + 1, math.MaxInt - 1, math.MaxInt}
}

// TestDocumentExample is P15.1: the chapter's, with the bytes written out.
func TestDocumentExample(t *testing.T) {
	remove := api.Update{Key: "k", Kind: api.UDelete}
	l := made(t, of(1, 1, remove), of(2, 1, remove, remove), of(1, 2, api.Update{Key: "a", Kind: api.USet, N: 3}))
	k, f := link.New(1, 2, 2, false), New()
	if n := f.Pump(l, k); n != 2 || f.At() != 2 {
		t.Fatalf("Pump: %d, At %d", n, f.At())
	}
	want := []api.Frame{{Epoch: 1, Seq: 1, Data: "\x01\x01\x01\x05\x01k"}, {Epoch: 1, Seq: 2, Data: "\x02\x01\x02\x05\x01k\x05\x01k"}}
	if got := k.Frames(); !slices.Equal(got, want) {
		t.Fatalf("Frames: %#v", got)
	}
	k.Hear(api.Frame{Epoch: 1, Ack: 1})
	if n := f.Pump(l, k); n != 1 || f.At() != 3 {
		t.Fatalf("once one is acknowledged: %d, At %d", n, f.At())
	}
	want = append(want[1:], api.Frame{Epoch: 1, Seq: 3, Data: "\x01\x02\x01\x01\x01a\x06"})
	if got := k.Frames(); !slices.Equal(got, want) {
		t.Fatalf("Frames: %#v", got)
	}
}

// TestNew is P15.1: at 0, each of its own.
func TestNew(t *testing.T) {
	one, other := New(), New()
	if one == other || one.At() != 0 || other.At() != 0 {
		t.Fatalf("At %d and %d", one.At(), other.At())
	}
	begun(t, 1, 2, false, mixed(5)...).drain(t)
	if one.At() != 0 || New().At() != 0 {
		t.Fatalf("At %d, one made later %d", one.At(), New().At())
	}
}

// TestNoRounds is P15.1: of a log without rounds none is taken, whatever the link; the first one that comes is.
func TestNoRounds(t *testing.T) {
	for window := 1; window <= 16; window++ {
		for _, passive := range []bool{false, true} {
			for _, epoch := range []int{0, 1, 2, maxEpoch} {
				x := begun(t, epoch, window, passive)
				x.ends(t)
				x.reset(t)
				x.ends(t)
				x.add(t, ordinary(3, 1))
				x.pumps(t, 1)
				x.ends(t)
			}
		}
	}
}

// TestWindows is P15.1: of each window and of logs of up to some more rounds than two of it: so many as fit, then none, till some are acknowledged.
func TestWindows(t *testing.T) {
	for window, counts := range nearer() {
		for many := range 2*counts + 3 {
			x := begun(t, 1, counts, false, mixed(many)...)
			x.k = link.New(1, window, 1, false)
			x.pumps(t, min(many, counts))
			x.ends(t)
			x.drain(t)
			if n := x.f.At(); n != many || len(x.p.offered) != many {
				t.Fatalf("window %d: At %d, %d offered, of %d", window, n, len(x.p.offered), many)
			}
		}
	}
}

// TestAsManyAsTheWindow is P15.1: a log of just as many rounds as the window, of one less, and of one more.
func TestAsManyAsTheWindow(t *testing.T) {
	for _, window := range []int{1, 2, 3, 15, 16} {
		less := begun(t, 5, window, false, mixed(window-1)...)
		less.pumps(t, window-1)
		less.ends(t)
		less.add(t, ordinary(9, 1), ordinary(9, 2)) // one of them fits
		less.pumps(t, 1)
		less.ends(t)

		same := begun(t, 5, window, false, mixed(window)...)
		same.pumps(t, window)
		same.ends(t)
		same.ackAll(t)
		same.ends(t)

		more := begun(t, 5, window, false, mixed(window+1)...)
		more.pumps(t, window)
		more.ends(t)
		more.ack(t, 1)
		more.pumps(t, 1)
		more.ends(t)
		more.ackAll(t)
		more.ends(t)
	}
}

// TestSomeAcknowledged is P15.1: as many as are acknowledged, one at a time, two at a time, and so on, come behind them.
func TestSomeAcknowledged(t *testing.T) {
	for window := 1; window <= 16; window++ {
		for step := 1; step <= window; step++ {
			const many = 40
			x := begun(t, 2, window, false, mixed(many)...)
			x.pumps(t, window)
			for x.f.At() < many {
				x.ack(t, step)
				x.pumps(t, min(step, many-x.f.At()))
				x.ends(t)
			}
			for x.k.Unacked() > 0 {
				x.ack(t, 1)
				x.ends(t)
			}
			if x.f.At() != many {
				t.Fatalf("At %d", x.f.At())
			}
		}
	}
}

// TestRoundsComeLater is P15.1: what comes to the log behind a Pump is taken by the next one, and by none before.
func TestRoundsComeLater(t *testing.T) {
	for window := 1; window <= 16; window++ {
		for step := 1; step <= 5; step++ {
			x := begun(t, 1, window, false)
			rounds := mixed(30)
			for i := 0; i < len(rounds); i += step {
				x.add(t, rounds[i:min(i+step, len(rounds))]...)
				x.pump(t)
				x.pump(t)
				if i%2 == 0 {
					x.ackAll(t)
				}
			}
			x.drain(t)
		}
	}
}

// TestReset is P15.1: at 0, in between and at the log's end, over the same link, full or not: the rounds are offered anew, from the first one on, behind those that it has.
func TestReset(t *testing.T) {
	for window := 1; window <= 16; window++ {
		for _, many := range []int{1, window - 1, window, window + 1, 2*window + 1} {
			for pumped := 0; pumped*window < many+window; pumped++ {
				full := begun(t, 1, window, false, mixed(many)...)
				for range pumped {
					full.ackAll(t)
					full.pump(t)
				}
				full.reset(t)
				full.pumps(t, min(many, window-full.k.Unacked()))
				full.reset(t)
				full.reset(t)
				full.drain(t)
				again := full.p.offered[len(full.p.offered)-many:]
				for i, r := range mixed(many) {
					if again[i] != bytesOf(t, r) {
						t.Fatalf("the round %d, offered anew: %q", i, again[i])
					}
				}
			}
		}
	}
}

// TestResetOverAFullLink is P15.1: a full link takes nothing of what is offered anew; then, one by one, the first rounds.
func TestResetOverAFullLink(t *testing.T) {
	x := begun(t, 1, 3, false, mixed(4)...)
	x.pumps(t, 3)
	x.reset(t)
	x.ends(t)
	for i := range 4 {
		x.ack(t, 1)
		x.pumps(t, 1)
		frames := x.k.Frames()
		if f := frames[len(frames)-1]; f.Data != bytesOf(t, mixed(4)[i]) || f.Seq != 4+i || x.f.At() != i+1 {
			t.Fatalf("behind the Reset, the piece %d: %#v", i, f)
		}
	}
	x.ends(t)
}

// TestResetOverAFreshLink is P15.1: all rounds are told to the fresh one, from the first one on; without a Reset, just those from the place on.
func TestResetOverAFreshLink(t *testing.T) {
	for window := 1; window <= 16; window++ {
		x := begun(t, 1, window, false, mixed(2*window+1)...)
		x.relink(t, 2)
		x.reset(t)
		x.pumps(t, window)
		x.relink(t, 3)
		x.pumps(t, window)
		if f := x.k.Frames()[0]; f.Data != bytesOf(t, x.p.rounds[window]) || f.Seq != 1 {
			t.Fatalf("without a Reset: %#v", f)
		}
		x.relink(t, 4)
		x.reset(t)
		x.pumps(t, window)
		if f := x.k.Frames()[0]; f.Data != bytesOf(t, x.p.rounds[0]) || f.Seq != 1 {
			t.Fatalf("with a Reset: %#v", f)
		}
		x.drain(t)
		x.relink(t, 5)
		x.ends(t)
		x.reset(t)
		x.drain(t)
		if n := len(x.p.offered); n != 2*window+1 {
			t.Fatalf("the fresh link was offered %d of %d", n, 2*window+1)
		}
	}
}

// TestEpochZero is P15.1: a link of the epoch 0 tells no frames, and takes as many rounds as any other.
func TestEpochZero(t *testing.T) {
	for window := 1; window <= 16; window++ {
		for _, passive := range []bool{false, true} {
			x := begun(t, 0, window, passive, mixed(window+2)...)
			x.pumps(t, window)
			x.ends(t)
			if f := x.k.Frames(); len(f) != 0 {
				t.Fatalf("frames of the epoch 0: %#v", f)
			}
			x.ack(t, 1)
			x.pumps(t, 1)
			x.ackAll(t)
			x.pumps(t, 1)
			x.ends(t)
		}
	}
}

// TestBecomesFresh is P15.1: a passive link that becomes fresh has nothing of what was taken; the feed goes on from its place, and begins anew with a Reset alone.
func TestBecomesFresh(t *testing.T) {
	for window := 1; window <= 16; window++ {
		for _, epoch := range []int{0, 1, 7} {
			x := begun(t, epoch, window, true, mixed(3*window)...)
			x.pumps(t, window)
			x.hear(t, api.Frame{Epoch: epoch + 1})
			if x.k.Unacked() != 0 || x.f.At() != window {
				t.Fatalf("fresh: %d unacknowledged, At %d", x.k.Unacked(), x.f.At())
			}
			x.pumps(t, window)
			x.hear(t, api.Frame{Epoch: epoch + 2, Ack: window})
			x.reset(t)
			x.pumps(t, window)
			if f := x.k.Frames()[0]; f != (api.Frame{Epoch: epoch + 2, Seq: 1, Data: bytesOf(t, x.p.rounds[0])}) {
				t.Fatalf("fresh, with a Reset: %#v", f)
			}
			x.hear(t, api.Frame{Epoch: maxEpoch})
			x.reset(t)
			x.drain(t)
			if n := len(x.p.offered); n != 3*window {
				t.Fatalf("in the last epoch %d were offered, of %d", n, 3*window)
			}
		}
	}
}

// TestFewerRounds is P15.1: a log that has fewer rounds than the place, or just as many, gives none, and the place stays.
func TestFewerRounds(t *testing.T) {
	long := made(t, mixed(12)...)
	for at := range 13 {
		f, first := New(), link.New(1, 16, 1, false)
		if at > 0 {
			f.Pump(made(t, mixed(at)...), first)
		}
		for many := range 13 {
			k, short := link.New(1, 16, 1, false), made(t, mixed(many)...)
			want := max(0, many-at)
			if n := f.Pump(short, k); n != want || k.Unacked() != want || f.At() != max(at, many) || short.Len() != many {
				t.Fatalf("at %d of %d: Pump %d, %d unacknowledged, At %d", at, many, n, k.Unacked(), f.At())
			}
			if many > at {
				break
			}
		}
		k, before := link.New(1, 16, 1, false), f.At()
		if n := f.Pump(long, k); n != 12-before || f.At() != 12 || first.Unacked() != at {
			t.Fatalf("at %d, a long one behind a short one: %d, At %d", before, n, f.At())
		}
		for i, r := range mixed(12)[before:] {
			if got := k.Frames()[i]; got.Data != bytesOf(t, r) || got.Seq != i+1 {
				t.Fatalf("from the place %d on: %#v", before, got)
			}
		}
	}
}

// TestOtherLogs is P15.1: of the log that is handed in, its round at the place is offered, whichever log was pumped before.
func TestOtherLogs(t *testing.T) {
	one, other := made(t, ordinary(1, 1), ordinary(1, 2), ordinary(1, 3)), made(t, ordinary(2, 1), ordinary(2, 2), ordinary(2, 3))
	k, f := link.New(1, 1, 1, false), New()
	for i, l := range []*commit.Log{one, other, one} {
		k.Hear(api.Frame{Epoch: 1, Ack: i})
		if n := f.Pump(l, k); n != 1 || f.At() != i+1 {
			t.Fatalf("Pump %d, At %d", n, f.At())
		}
		r, _ := l.At(i)
		if got := k.Frames()[0]; got.Data != bytesOf(t, r) || got.Seq != i+1 {
			t.Fatalf("at the place %d: %#v", i, got)
		}
	}
}

// TestStrayFrames is P15.1: frames of elder epochs, of later ones where the link isn't passive, and acknowledgements of what wasn't sent change nothing of what is pumped.
func TestStrayFrames(t *testing.T) {
	for window := 1; window <= 16; window++ {
		for _, passive := range []bool{false, true} {
			const many = 20
			x := begun(t, 5, window, passive, mixed(many)...)
			for x.f.At() < many {
				x.pump(t)
				for _, ack := range stray() {
					x.hear(t, api.Frame{Epoch: 5, Ack: ack})
				}
				for ack := range many + 1 {
					for _, epoch := range []int{4, 3, 1, 0, -1, math.MinInt} {
						x.hear(t, api.Frame{Epoch: epoch, Ack: ack})
					}
					if !passive {
						x.hear(t, api.Frame{Epoch: 6, Ack: ack})
					}
				}
				x.ends(t)
				x.ack(t, 0) // the last one again
				x.ends(t)
				x.ack(t, 1)
			}
			x.drain(t)
		}
	}
}

// TestNumbersUsedUp is P15.1: a link whose numbers are used up takes no more, full or not; no test can wait for 2^50 of them, so its sender is one of less.
func TestNumbersUsedUp(t *testing.T) {
	for last := range 6 {
		for window := 1; window <= 5; window++ {
			l, k, f := made(t, mixed(9)...), link.New(1, window, 1, false), New()
			k.Sender = sender.New(window, last)
			for range 9 {
				k.Hear(api.Frame{Epoch: 1, Ack: f.At()})
				if at, n := f.At(), f.Pump(l, k); n != min(window, last-at) || f.At() != at+n || k.Unacked() != n {
					t.Fatalf("window %d, numbers up to %d: Pump %d, At %d", window, last, n, f.At())
				}
			}
			if f.At() != last {
				t.Fatalf("At %d, not %d", f.At(), last)
			}
		}
	}
}

// TestLinkWithOtherData is P15.1: what else a link was offered takes its room, and isn't counted.
func TestLinkWithOtherData(t *testing.T) {
	for window := 1; window <= 16; window++ {
		for others := range window + 1 {
			l, k, f := made(t, mixed(20)...), link.New(1, window, 1, false), New()
			for range others {
				k.Offer("other data")
			}
			if n := f.Pump(l, k); n != window-others || f.At() != n || k.Unacked() != window {
				t.Fatalf("window %d, %d others: Pump %d, At %d", window, others, n, f.At())
			}
			for i, got := range k.Frames() {
				want := "other data"
				if i >= others {
					want = bytesOf(t, mixed(20)[i-others])
				}
				if got.Data != want || got.Seq != i+1 {
					t.Fatalf("window %d, %d others, the frame %d: %#v", window, others, i, got)
				}
			}
		}
	}
}

// TestWhatCameStays: what came to the link, and waits there, is left as it is.
func TestWhatCameStays(t *testing.T) {
	l, k, f := made(t, mixed(5)...), link.New(1, 2, 3, false), New()
	for n, data := range []string{"a", "", "c"} {
		k.Hear(api.Frame{Epoch: 1, Seq: n + 1, Data: data})
	}
	for i := range 4 {
		f.Pump(l, k)
		f.Reset()
		k.Hear(api.Frame{Epoch: 1, Ack: i})
	}
	if n := k.Waiting(); n != 3 || k.Frames()[0].Ack != 3 {
		t.Fatalf("%d wait, Ack %d", n, k.Frames()[0].Ack)
	}
	for _, want := range []string{"a", "", "c"} {
		if data, ok := k.Pop(); data != want || !ok {
			t.Fatalf("Pop: %q %v, not %q", data, ok, want)
		}
	}
}

// greatLists: updates of each Kind, at the bounds of their fields.
func greatLists() [][]api.Update {
	key, text := "\x00\xff234567890abcde", "\xff234567890123456789012345678901\x00"
	l := [][]api.Update{
		{{Key: "k", Kind: api.USet}},
		{{Key: key, Kind: api.USet, N: -1 << 61}, {Key: key, Kind: api.UAdd, N: 1<<61 - 1}},
		{{Key: "k", Kind: api.UText}, {Key: "k", Kind: api.UAppend}},
		{{Key: key, Kind: api.UText, S: text}},
		{{Key: "\x00", Kind: api.UAppend, S: "\xff"}},
		{{Key: key, Kind: api.UDelete}},
	}
	for many := 1; many <= 8; many++ {
		l = append(l, slices.Repeat([]api.Update{{Key: key, Kind: api.UAppend, S: text}}, many))
	}
	return l
}

// TestRoundsAreGotAgain is P15.2: of each piece that the link has, the log's round at that place is got again, whatever its updates are.
func TestRoundsAreGotAgain(t *testing.T) {
	var rounds []api.Round
	for i, l := range greatLists() {
		rounds = append(rounds, of(1, i+1, l...), of(64, i+1, l...))
	}
	x := begun(t, 1, 16, false, rounds...)
	for range 4 {
		x.pump(t)
		x.ack(t, 8)
	}
	x.reset(t)
	for place := 0; place < len(rounds); place = x.f.At() {
		x.ackAll(t)
		x.pump(t)
		for i, f := range x.k.Frames() {
			if r, e := round.Get(f.Data); e != api.OK || !round.Same(r, rounds[place+i]) {
				t.Fatalf("at the place %d: %#v %d", place+i, r, e)
			}
		}
	}
}

// TestManyRounds is P15.1 and P15.2: more rounds than a byte or two can count.
func TestManyRounds(t *testing.T) {
	const many = 1<<16 + 300
	l, k, f := commit.New(2), link.New(1, 16, 1, false), New()
	for n := 1; n <= many; n++ {
		l.Add(ordinary(n%2+1, (n+1)/2))
	}
	for at := 0; at < many; at += 16 {
		k.Hear(api.Frame{Epoch: 1, Ack: at})
		if n := f.Pump(l, k); n != min(16, many-at) || f.At() != at+n {
			t.Fatalf("at %d: Pump %d, At %d", at, n, f.At())
		}
		for i, got := range k.Frames() {
			n := at + i + 1
			if got.Seq != n || got.Data != bytesOf(t, ordinary(n%2+1, (n+1)/2)) {
				t.Fatalf("at %d: %#v", at+i, got)
			}
		}
	}
	if f.Pump(l, k) != 0 || f.At() != many || l.Len() != many {
		t.Fatalf("at the end: At %d of %d", f.At(), l.Len())
	}
	f.Reset()
	k.Hear(api.Frame{Epoch: 1, Ack: many})
	if f.Pump(l, k) != 16 || f.At() != 16 || k.Frames()[0].Data != bytesOf(t, ordinary(2, 1)) {
		t.Fatalf("behind a Reset: At %d", f.At())
	}
}

// TestLogStays: a log that is pumped, whatever is done with the feed, tells what it told, and takes the next rounds.
func TestLogStays(t *testing.T) {
	rounds := mixed(20)
	l, f := made(t, rounds...), New()
	for window := 1; window <= 16; window++ {
		k := link.New(1, window, 1, false)
		for ack := range 25 {
			f.Pump(l, k)
			k.Hear(api.Frame{Epoch: 1, Ack: ack})
			if ack%7 == 0 {
				f.Reset()
			}
			if !slices.EqualFunc(l.All(), rounds, round.Same) || l.Len() != 20 {
				t.Fatalf("the log: %#v", l.All())
			}
		}
	}
	lasts := map[int]int{}
	for _, r := range rounds {
		lasts[r.Origin] = r.Number
	}
	for origin := range 66 {
		if n := l.Last(origin); n != lasts[origin] {
			t.Fatalf("Last %d: %d, not %d", origin, n, lasts[origin])
		}
	}
	if e := l.Add(rounds[0]); e != api.ErrTwice {
		t.Fatalf("a round again: %d", e)
	}
	if e := l.Add(ordinary(7, 1)); e != api.OK || l.Len() != 21 {
		t.Fatalf("the next round: %d", e)
	}
}

// TestTwoFeeds is P15.1 and P15.2: one log, pumped by two into two links, each at its own place.
func TestTwoFeeds(t *testing.T) {
	for window := 1; window <= 16; window++ {
		one, other := begun(t, 1, window, false, mixed(9)...), begun(t, 1, 17-window, true)
		other.l, other.p.rounds = one.l, one.p.rounds
		both := func(name string) {
			t.Helper()
			one.holds(t, name)
			other.holds(t, name)
		}
		one.pumps(t, min(window, 9))
		both("the one pumped")
		one.ackAll(t)
		one.pump(t)
		both("the one went on")
		other.pumps(t, min(17-window, 9))
		both("the other one pumped")
		one.reset(t)
		both("the one is at 0")
		other.drain(t)
		both("the other one at the end")
		one.drain(t)
		both("both at the end")
		other.hear(t, api.Frame{Epoch: 2})
		other.reset(t)
		other.pump(t)
		both("the other one began anew")
		one.ends(t)
	}
}

// TestTwoFeedsOneLink is P15.1: each counts just what was taken of it, and the link has both's.
func TestTwoFeedsOneLink(t *testing.T) {
	l, k, one, other := made(t, mixed(4)...), link.New(1, 6, 1, false), New(), New()
	if n, m := one.Pump(l, k), other.Pump(l, k); n != 4 || m != 2 || one.At() != 4 || other.At() != 2 || k.Unacked() != 6 {
		t.Fatalf("Pump %d and %d, At %d and %d", n, m, one.At(), other.At())
	}
	k.Hear(api.Frame{Epoch: 1, Ack: 1})
	if n, m := one.Pump(l, k), other.Pump(l, k); n != 0 || m != 1 || one.At() != 4 || other.At() != 3 {
		t.Fatalf("Pump %d and %d, At %d and %d", n, m, one.At(), other.At())
	}
	one.Reset()
	if one.At() != 0 || other.At() != 3 {
		t.Fatalf("the one is reset: At %d and %d", one.At(), other.At())
	}
}

// TestAskedAgain is P15.1: At tells the same, however often it is asked, and changes nothing of what is pumped.
func TestAskedAgain(t *testing.T) {
	x := begun(t, 1, 2, false, mixed(5)...)
	for _, at := range []int{2, 4, 5} {
		x.pump(t)
		for range 5 {
			if n := x.f.At(); n != at {
				t.Fatalf("At %d, not %d", n, at)
			}
		}
		x.ackAll(t)
	}
}
