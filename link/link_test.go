package link

import (
	"math"
	"reflect"
	"slices"
	"strconv"
	"strings"
	"testing"
	"unsafe"

	"chapbook/api"
	"chapbook/receiver"
	"chapbook/sender"
)

const (
	maxEpoch = 1 << 40 // the greatest epoch
	maxSeq   = 1 << 50 // the greatest number of a piece
)

// plain is an end by the tests' own means: all that was ever offered and that ever came in its epoch, and how many of these were acknowledged and popped.
type plain struct {
	epoch, window, room int
	passive             bool
	offered, came       []string
	acked, popped       int
}

func (p *plain) offer(data string) api.Errno {
	if len(p.offered)-p.acked == p.window {
		return api.ErrFull
	}
	p.offered = append(p.offered, data)
	return api.OK
}

func (p *plain) pop() (string, bool) {
	if p.popped == len(p.came) {
		return "", false
	}
	p.popped++
	return p.came[p.popped-1], true
}

func (p *plain) frames() []api.Frame {
	var l []api.Frame
	for i := p.acked; i < len(p.offered); i++ {
		l = append(l, api.Frame{Epoch: p.epoch, Seq: i + 1, Ack: len(p.came), Data: p.offered[i]})
	}
	if p.epoch > 0 && len(l) == 0 {
		l = append(l, api.Frame{Epoch: p.epoch, Ack: len(p.came)})
	}
	if p.epoch == 0 {
		l = nil
	}
	return l
}

func (p *plain) hear(f api.Frame) bool {
	anew := false
	switch {
	case f.Epoch < p.epoch, f.Epoch > p.epoch && !p.passive:
		return false
	case f.Epoch > p.epoch:
		anew = true
		*p = plain{epoch: min(f.Epoch, maxEpoch), window: p.window, room: p.room, passive: true}
	}
	if f.Ack <= len(p.offered) {
		p.acked = max(p.acked, f.Ack)
	}
	if f.Seq == len(p.came)+1 && len(p.came)-p.popped < p.room {
		p.came = append(p.came, f.Data)
	}
	return anew
}

func (p *plain) copied() *plain {
	c := *p
	c.offered, c.came = slices.Clone(p.offered), slices.Clone(p.came)
	return &c
}

// copied is an end as that one, which goes its own way.
func copied(l *Link) *Link {
	c, r := *l, *l.Receiver
	c.Sender, c.Receiver = l.Sender.Copy(), &r
	return &c
}

// holds looks whether an end stands as a plain one: by what it tells, and by what another one that is as this one pops.
func holds(t *testing.T, name string, l *Link, p *plain) {
	t.Helper()
	if n := l.Epoch(); n != p.epoch {
		t.Fatalf("%s: Epoch %d, not %d", name, n, p.epoch)
	}
	if n := l.Unacked(); n != len(p.offered)-p.acked {
		t.Fatalf("%s: Unacked %d, not %d", name, n, len(p.offered)-p.acked)
	}
	if n := l.Waiting(); n != len(p.came)-p.popped {
		t.Fatalf("%s: Waiting %d, not %d", name, n, len(p.came)-p.popped)
	}
	if got, want := l.Frames(), p.frames(); !slices.Equal(got, want) {
		t.Fatalf("%s: Frames %.300v, not %.300v", name, got, want)
	}
	c := copied(l)
	for _, data := range p.came[p.popped:] {
		if got, ok := c.Pop(); got != data || !ok {
			t.Fatalf("%s: Pop %.20q %v, not %.20q", name, got, ok, data)
		}
	}
	if got, ok := c.Pop(); got != "" || ok {
		t.Fatalf("%s: Pop of none: %.20q %v", name, got, ok)
	}
}

// ends are an end and a plain one, to both of which the same is done.
type ends struct {
	l *Link
	p *plain
}

// begun is a fresh end, that counts as of that epoch, window and room.
func begun(t *testing.T, epoch, window, room int, passive bool) ends {
	t.Helper()
	e := ends{New(epoch, window, room, passive), &plain{epoch: epoch, window: window, room: room, passive: passive}}
	holds(t, "begun", e.l, e.p)
	return e
}

func (e ends) copied() ends { return ends{copied(e.l), e.p.copied()} }

func (e ends) offer(t *testing.T, data string) api.Errno {
	t.Helper()
	want := e.p.offer(data)
	if got := e.l.Offer(data); got != want {
		t.Fatalf("Offer %.20q: %d, not %d (%d unacknowledged, window %d)", data, got, want, len(e.p.offered)-e.p.acked, e.p.window)
	}
	holds(t, "offered", e.l, e.p)
	return want
}

func (e ends) pop(t *testing.T) {
	t.Helper()
	want, wantOK := e.p.pop()
	if got, ok := e.l.Pop(); got != want || ok != wantOK {
		t.Fatalf("Pop: %.20q %v, not %.20q %v", got, ok, want, wantOK)
	}
	holds(t, "popped", e.l, e.p)
}

func (e ends) hear(t *testing.T, f api.Frame) bool {
	t.Helper()
	before, want := e.p.copied(), e.p.hear(f)
	if got := e.l.Hear(f); got != want {
		t.Fatalf("Hear %.200v: %v, not %v (%.200v)", f, got, want, before)
	}
	holds(t, "heard", e.l, e.p)
	return want
}

// refuses looks whether Offer answers ErrFull, and changes nothing.
func (e ends) refuses(t *testing.T) {
	t.Helper()
	for _, data := range []string{"", "refused", strings.Repeat("r", 1000)} {
		if got := e.offer(t, data); got != api.ErrFull {
			t.Fatalf("Offer: %d", got)
		}
	}
}

// deaf looks whether frames change nothing, and answer false.
func (e ends) deaf(t *testing.T, l ...api.Frame) {
	t.Helper()
	before := copied(e.l)
	for _, f := range l {
		if e.l.Hear(f) {
			t.Fatalf("Hear %.200v: true (%.200v)", f, e.p)
		}
		if !same(e.l, before) {
			t.Fatalf("Hear %.200v changed something (%.200v)", f, e.p)
		}
		holds(t, "unchanged", e.l, e.p)
	}
}

// same looks whether two ends are the same inside, down to the sender's and the receiver's own fields.
func same(a, b *Link) bool {
	return a.epoch == b.epoch && a.passive == b.passive && reflect.DeepEqual(a.Sender, b.Sender) && reflect.DeepEqual(a.Receiver, b.Receiver)
}

// isFresh looks whether an end is as one that was just made: its sender with numbers up to 2^50.
func isFresh(t *testing.T, name string, l *Link, epoch, window, room int) {
	t.Helper()
	holds(t, name, l, &plain{epoch: epoch, window: window, room: room})
	if !reflect.DeepEqual(l.Sender, sender.New(window, maxSeq)) {
		t.Fatalf("%s: the sender isn't a new one of the window %d: %v", name, window, l.Sender)
	}
	if !reflect.DeepEqual(l.Receiver, receiver.New(room)) {
		t.Fatalf("%s: the receiver isn't a new one of the room %d: %v", name, room, l.Receiver)
	}
}

// out and in: the data of a number that is offered, and that comes.
func out(n int) string { return "out " + strconv.Itoa(n) }
func in(n int) string  { return "in " + strconv.Itoa(n) }

// stood is an end that was offered so many pieces, of which some are acknowledged, and took so many, of which some are popped.
func stood(t *testing.T, e ends, offered, acked, came, popped int) ends {
	t.Helper()
	for n := 1; n <= offered; n++ {
		if got := e.offer(t, out(n)); got != api.OK {
			t.Fatalf("Offer %d: %d", n, got)
		}
		if n <= acked {
			e.hear(t, api.Frame{Epoch: e.p.epoch, Ack: n})
		}
	}
	for n := 1; n <= came; n++ {
		e.hear(t, api.Frame{Epoch: e.p.epoch, Seq: n, Data: in(n)})
		if n <= popped {
			e.pop(t)
		}
	}
	if len(e.p.offered) != offered || e.p.acked != acked || len(e.p.came) != came || e.p.popped != popped {
		t.Fatalf("the test's own fault: %v", e.p)
	}
	return e
}

// nearer: windows or rooms, and as which they count.
func nearer() map[int]int {
	m := map[int]int{0: 1, -1: 1, -16: 1, -17: 1, math.MinInt: 1, math.MinInt + 1: 1, -1 << 32: 1, 17: 16, 18: 16, 32: 16, 1 << 16: 16, 1<<32 + 3: 16, 1<<62 + 1: 16, math.MaxInt: 16}
	for n := 1; n <= 16; n++ {
		m[n] = n
	}
	return m
}

// nearerEpochs: epochs, and as which they count.
func nearerEpochs() map[int]int {
	return map[int]int{
		0: 0, 1: 1, 2: 2, 3: 3, 1<<31 - 1: 1<<31 - 1, 1 << 32: 1 << 32, maxEpoch - 1: maxEpoch - 1, maxEpoch: maxEpoch,
		-1: 0, -2: 0, -maxEpoch: 0, math.MinInt + 1: 0, math.MinInt: 0,
		maxEpoch + 1: maxEpoch, 2 * maxEpoch: maxEpoch, maxSeq: maxEpoch, 1 << 62: maxEpoch, math.MaxInt - 1: maxEpoch, math.MaxInt: maxEpoch,
	}
}

// wrong: numbers that are wrong for an end that was offered, and took, some 20 pieces at most.
func wrong() []int {
	return []int{-1, -2, -16, -17, -maxSeq, math.MinInt, math.MinInt + 1, 99, 1 << 32, 1<<32 + 2, maxSeq, maxSeq + 1, math.MaxInt - 1, math.MaxInt}
}

// of: frames of an epoch, with each kind of Seq and Ack, ordinary and wrong ones.
func of(epoch int) []api.Frame {
	var l []api.Frame
	numbers := append(wrong(), 0, 1, 2, 3, 4, 5)
	for _, seq := range numbers {
		for _, ack := range numbers {
			l = append(l, api.Frame{Epoch: epoch, Seq: seq, Ack: ack, Data: "strange"}, api.Frame{Epoch: epoch, Seq: seq, Ack: ack})
		}
	}
	return l
}

// TestDocumentExample is P12.2 and P12.3: the chapter's.
func TestDocumentExample(t *testing.T) {
	l := New(0, 2, 2, true)
	if f := l.Frames(); len(f) != 0 {
		t.Fatalf("frames of the epoch 0: %v", f)
	}
	if !l.Hear(api.Frame{Epoch: 2}) {
		t.Fatal("a frame of epoch 2: false")
	}
	isFresh(t, "of epoch 2", l, 2, 2, 2)
	if f := l.Frames(); !slices.Equal(f, []api.Frame{{Epoch: 2}}) {
		t.Fatalf("frames of the epoch 2: %v", f)
	}
}

// TestNew is P12.1: a fresh end, of the nearest epoch, window and room.
func TestNew(t *testing.T) {
	for epoch, e := range nearerEpochs() {
		for window, w := range nearer() {
			for _, room := range []int{math.MinInt, 0, 1, 2, 16, 17, math.MaxInt} {
				for _, passive := range []bool{false, true} {
					isFresh(t, "new", New(epoch, window, room, passive), e, w, nearer()[room])
				}
			}
		}
		for room, r := range nearer() {
			isFresh(t, "new", New(epoch, 3, room, true), e, 3, r)
			isFresh(t, "new", New(epoch, 3, room, false), e, 3, r)
		}
	}
}

// TestFreshAtOnce is P12.2 and P12.3: a fresh end is handed an acknowledgement of nothing, pops none, and tells it.
func TestFreshAtOnce(t *testing.T) {
	for _, passive := range []bool{false, true} {
		for epoch := range 3 {
			e := begun(t, epoch, 4, 4, passive)
			e.pop(t)
			e.deaf(t, api.Frame{Epoch: epoch}, api.Frame{Epoch: epoch, Ack: 1}, api.Frame{Epoch: epoch, Ack: 1, Seq: 2, Data: "early"})
		}
	}
}

// TestWindow is P12.1: as many pieces as the window, and one more: ErrFull; one is acknowledged, and one more may come.
func TestWindow(t *testing.T) {
	for window, most := range nearer() {
		e := ends{New(7, window, 2, false), &plain{epoch: 7, window: most, room: 2}}
		stood(t, e, most, 0, 0, 0)
		e.refuses(t)
		e.hear(t, api.Frame{Epoch: 7, Ack: 1})
		if got := e.offer(t, out(most+1)); got != api.OK {
			t.Fatalf("window %d: the one more: %d", window, got)
		}
		e.refuses(t)
		e.hear(t, api.Frame{Epoch: 7, Ack: most + 1})
		if e.l.Unacked() != 0 {
			t.Fatalf("window %d: %d left", window, e.l.Unacked())
		}
	}
}

// TestRoom is P12.1 and P12.3: as many wait as there is room for, and one more isn't taken; nothing is laid by for later.
func TestRoom(t *testing.T) {
	for room, most := range nearer() {
		e := ends{New(7, 2, room, false), &plain{epoch: 7, window: 2, room: most}}
		stood(t, e, 0, 0, most, 0)
		for n := most + 1; n < 2*most+3; n++ {
			e.deaf(t, api.Frame{Epoch: 7, Seq: n, Data: "one more"}, api.Frame{Epoch: 7, Seq: n + 1, Data: "two more"})
			e.pop(t)
			if f := e.l.Frames(); !slices.Equal(f, []api.Frame{{Epoch: 7, Ack: n - 1}}) {
				t.Fatalf("room %d: %v", room, f)
			}
			e.hear(t, api.Frame{Epoch: 7, Seq: n, Data: in(n)})
			if e.l.Waiting() != most {
				t.Fatalf("room %d: %d wait", room, e.l.Waiting())
			}
		}
	}
}

// TestExhausted is P12.1: once all numbers are given, Offer tells it; no test can wait for 2^50 of them, so the sender is one of less.
func TestExhausted(t *testing.T) {
	l := New(1, 2, 2, false)
	l.Sender = sender.New(2, 1)
	if e := l.Offer("a"); e != api.OK {
		t.Fatalf("the last number: %d", e)
	}
	for range 3 {
		if e := l.Offer("b"); e != api.ErrExhausted || l.Unacked() != 1 {
			t.Fatalf("behind the last number: %d", e)
		}
	}
	l.Hear(api.Frame{Epoch: 1, Ack: 1})
	if e := l.Offer("b"); e != api.ErrExhausted || l.Unacked() != 0 {
		t.Fatalf("all acknowledged: %d", e)
	}
}

// TestPromoted is P12.1 and the chapter's section 'Ways': what an end pops and counts is its embedded sender's and receiver's.
func TestPromoted(t *testing.T) {
	e := stood(t, begun(t, 3, 5, 6, false), 4, 1, 5, 2)
	if e.l.Sender.Unacked() != 3 || e.l.Receiver.Waiting() != 3 || e.l.Receiver.Ack() != 5 || e.l.Sender.Sent() != 4 {
		t.Fatalf("sender %v, receiver %v", e.l.Sender, e.l.Receiver)
	}
	if data, ok := e.l.Receiver.Pop(); data != in(3) || !ok {
		t.Fatalf("the receiver's Pop: %q %v", data, ok)
	}
	e.p.pop()
	holds(t, "the receiver popped", e.l, e.p)
	if gone := e.l.Sender.Ack(3); gone != 2 {
		t.Fatalf("the sender's Ack: %d", gone)
	}
	e.p.acked = 3
	holds(t, "the sender's were acknowledged", e.l, e.p)
}

// TestFrames is P12.2: written out, with each of nothing, one and more pieces, and with nothing and more that came.
func TestFrames(t *testing.T) {
	l := New(5, 3, 3, false)
	is := func(name string, want ...api.Frame) {
		t.Helper()
		for range 3 {
			if f := l.Frames(); !slices.Equal(f, want) {
				t.Fatalf("%s: %v, not %v", name, f, want)
			}
		}
	}
	is("fresh", api.Frame{Epoch: 5})
	l.Offer("a")
	is("a", api.Frame{Epoch: 5, Seq: 1, Data: "a"})
	l.Offer("")
	l.Offer("c")
	is("a, none, c", api.Frame{Epoch: 5, Seq: 1, Data: "a"}, api.Frame{Epoch: 5, Seq: 2}, api.Frame{Epoch: 5, Seq: 3, Data: "c"})
	l.Offer("d")
	is("full", api.Frame{Epoch: 5, Seq: 1, Data: "a"}, api.Frame{Epoch: 5, Seq: 2}, api.Frame{Epoch: 5, Seq: 3, Data: "c"})
	l.Hear(api.Frame{Epoch: 5, Seq: 1, Ack: 1, Data: "x"})
	is("a is acknowledged, x came", api.Frame{Epoch: 5, Seq: 2, Ack: 1}, api.Frame{Epoch: 5, Seq: 3, Ack: 1, Data: "c"})
	l.Pop()
	l.Hear(api.Frame{Epoch: 5, Seq: 2, Ack: 2, Data: "y"})
	is("x is popped, y came", api.Frame{Epoch: 5, Seq: 3, Ack: 2, Data: "c"})
	l.Hear(api.Frame{Epoch: 5, Ack: 3})
	is("all acknowledged", api.Frame{Epoch: 5, Ack: 2})
}

// TestFramesOfNoEpoch is P12.2: none in the epoch 0, passive or not, whatever was offered and came; the pieces stay.
func TestFramesOfNoEpoch(t *testing.T) {
	for _, passive := range []bool{false, true} {
		for _, epoch := range []int{0, -1, math.MinInt} {
			e := ends{New(epoch, 3, 3, passive), &plain{window: 3, room: 3, passive: passive}}
			stood(t, e, 3, 0, 2, 1)
			if f := e.l.Frames(); len(f) != 0 || e.l.Unacked() != 3 || e.l.Waiting() != 1 {
				t.Fatalf("frames %v, %d unacknowledged, %d wait", f, e.l.Unacked(), e.l.Waiting())
			}
			e.refuses(t)
			e.hear(t, api.Frame{Ack: 2})
			if e.l.Unacked() != 1 || len(e.l.Frames()) != 0 {
				t.Fatalf("%d unacknowledged, frames %v", e.l.Unacked(), e.l.Frames())
			}
		}
	}
}

// TestElderEpochs is P12.3: their frames change nothing, and answer false, whatever is in them.
func TestElderEpochs(t *testing.T) {
	for _, passive := range []bool{false, true} {
		for _, epoch := range []int{0, 1, 2, 5, maxEpoch} {
			for _, elder := range []int{epoch - 1, epoch - 2, 0, -1, -maxEpoch, math.MinInt} {
				if elder < epoch {
					stood(t, begun(t, epoch, 4, 4, passive), 4, 1, 3, 1).deaf(t, of(elder)...)
					begun(t, epoch, 4, 4, passive).deaf(t, of(elder)...)
				}
			}
		}
	}
}

// TestLaterEpochs is P12.3: at an end that isn't passive their frames change nothing, and answer false, whatever is in them.
func TestLaterEpochs(t *testing.T) {
	for _, epoch := range []int{0, 1, 2, 5, maxEpoch - 1, maxEpoch} {
		for _, later := range []int{epoch + 1, epoch + 2, 1 << 32, maxEpoch, maxEpoch + 1, maxSeq, math.MaxInt} {
			if later > epoch {
				stood(t, begun(t, epoch, 4, 4, false), 4, 1, 3, 1).deaf(t, of(later)...)
				begun(t, epoch, 4, 4, false).deaf(t, of(later)...)
			}
		}
	}
}

// TestHear is P12.3: of the same epoch, each Ack with each Seq, both taken, one of them, or none; the answer is false.
func TestHear(t *testing.T) {
	for _, passive := range []bool{false, true} {
		for _, epoch := range []int{1, 2, maxEpoch} {
			e := stood(t, begun(t, epoch, 5, 3, passive), 6, 2, 4, 2)
			for _, ack := range append(wrong(), 0, 1, 2, 3, 4, 5, 6, 7, 8) {
				for _, seq := range append(wrong(), 0, 1, 2, 3, 4, 5, 6, 7, 8) {
					for _, data := range []string{"", "data"} {
						c := e.copied()
						if c.hear(t, api.Frame{Epoch: epoch, Seq: seq, Ack: ack, Data: data}) {
							t.Fatalf("epoch %d, heard in it: true", epoch)
						}
						takesAck, takesSeq := ack > 2 && ack <= 6, seq == 5
						if (c.p.acked == ack) != (takesAck || ack == 2) || (len(c.p.came) == 5) != takesSeq {
							t.Fatalf("the test's own fault: Ack %d, Seq %d, %v", ack, seq, c.p)
						}
						if !takesAck && !takesSeq && !same(c.l, e.l) {
							t.Fatalf("Ack %d, Seq %d changed something", ack, seq)
						}
					}
				}
			}
		}
	}
}

// TestPieceWithAck is P12.3: written out, a frame's Ack and its piece are both taken; Seq 0 has an Ack alone.
func TestPieceWithAck(t *testing.T) {
	e := stood(t, begun(t, 9, 2, 2, false), 2, 0, 0, 0)
	e.refuses(t)
	if e.l.Hear(api.Frame{Epoch: 9, Seq: 1, Ack: 1, Data: "p"}) || e.l.Unacked() != 1 || e.l.Waiting() != 1 {
		t.Fatalf("both: %d unacknowledged, %d wait", e.l.Unacked(), e.l.Waiting())
	}
	if e.l.Hear(api.Frame{Epoch: 9, Seq: 3, Ack: 2, Data: "r"}) || e.l.Unacked() != 0 || e.l.Waiting() != 1 {
		t.Fatalf("the Ack alone, the piece is too early: %d unacknowledged, %d wait", e.l.Unacked(), e.l.Waiting())
	}
	e.l.Offer("c")
	if e.l.Hear(api.Frame{Epoch: 9, Seq: 2, Ack: 9, Data: "q"}) || e.l.Unacked() != 1 || e.l.Waiting() != 2 {
		t.Fatalf("the piece alone, the Ack is of none: %d unacknowledged, %d wait", e.l.Unacked(), e.l.Waiting())
	}
	if e.l.Hear(api.Frame{Epoch: 9, Seq: 3, Ack: 3, Data: "r"}) || e.l.Unacked() != 0 || e.l.Waiting() != 2 {
		t.Fatalf("the Ack alone, there is no room: %d unacknowledged, %d wait", e.l.Unacked(), e.l.Waiting())
	}
	e.l.Offer("d")
	e.l.Pop()
	if e.l.Hear(api.Frame{Epoch: 9, Seq: 0, Ack: 4}) || e.l.Unacked() != 0 || e.l.Waiting() != 1 {
		t.Fatalf("Seq 0: %d unacknowledged, %d wait", e.l.Unacked(), e.l.Waiting())
	}
	if data, ok := e.l.Pop(); data != "q" || !ok {
		t.Fatalf("Pop: %q %v", data, ok)
	}
}

// TestBecomesFresh is P12.3: a passive end, with pieces unacknowledged and pieces waiting: none of them is left, numbers begin anew, and window and room are as before.
func TestBecomesFresh(t *testing.T) {
	for window, w := range nearer() {
		for room, r := range nearer() {
			e := ends{New(2, window, room, true), &plain{epoch: 2, window: w, room: r, passive: true}}
			stood(t, e, w+1, 1, r+1, 1)
			e.refuses(t)
			if !e.hear(t, api.Frame{Epoch: 4, Ack: w + 1}) {
				t.Fatal("a later epoch: false")
			}
			isFresh(t, "fresh", e.l, 4, w, r)
			e.pop(t)
			e.deaf(t, api.Frame{Epoch: 2, Seq: 1, Ack: 1, Data: "old"}, api.Frame{Epoch: 3, Seq: 1, Data: "old"}, api.Frame{Epoch: 4, Seq: r + 2, Data: "numbers go on"})
			stood(t, e, w, 0, r, 0)
			e.refuses(t)
			e.deaf(t, api.Frame{Epoch: 4, Seq: r + 1, Data: "no room"})
		}
	}
}

// TestFreshByAPiece is P12.3: the frame by which an end becomes fresh is heard by the fresh one: its piece is taken, if it is the first, and its Ack is of nothing.
func TestFreshByAPiece(t *testing.T) {
	for _, epoch := range []int{0, 1, 5} {
		for later := epoch + 1; later < epoch+4; later++ {
			for _, ack := range append(wrong(), 0, 1, 2, 3, 4) {
				for _, seq := range append(wrong(), 0, 1, 2, 3, 4, 5) {
					e := stood(t, begun(t, epoch, 4, 4, true), 4, 1, 3, 1)
					if !e.hear(t, api.Frame{Epoch: later, Seq: seq, Ack: ack, Data: "new"}) {
						t.Fatal("a later epoch: false")
					}
					if n := e.l.Waiting(); (n == 1) != (seq == 1) || n > 1 || e.l.Unacked() != 0 || e.l.Epoch() != later {
						t.Fatalf("Seq %d, Ack %d: %d wait, %d unacknowledged, epoch %d", seq, ack, n, e.l.Unacked(), e.l.Epoch())
					}
					e.offer(t, "anew")
					if f := e.l.Frames(); f[0].Seq != 1 {
						t.Fatalf("numbers don't begin anew: %v", f)
					}
				}
			}
		}
	}
}

// TestFreshOnce is P12.3: just the first frame of a later epoch makes an end fresh, and it stays passive: a later one still does it.
func TestFreshOnce(t *testing.T) {
	e := begun(t, 0, 3, 3, true)
	for _, epoch := range []int{1, 2, 3, 7, 8, 1 << 32, maxEpoch - 1, maxEpoch} {
		if !e.hear(t, api.Frame{Epoch: epoch, Seq: 1, Data: in(1)}) {
			t.Fatalf("epoch %d: false", epoch)
		}
		e.offer(t, out(1))
		for n := 1; n <= 3; n++ {
			if e.hear(t, api.Frame{Epoch: epoch, Seq: n, Data: in(n)}) || e.l.Waiting() != n || e.l.Unacked() != 1 {
				t.Fatalf("epoch %d, the piece %d: fresh again, or %d wait", epoch, n, e.l.Waiting())
			}
		}
	}
}

// TestGreatestEpoch is P12.3: frames of the epoch 2^40, and of more than it, by which an end is of 2^40 at most.
func TestGreatestEpoch(t *testing.T) {
	for _, x := range []struct{ epoch, counts int }{
		{maxEpoch - 1, maxEpoch - 1}, {maxEpoch, maxEpoch}, {maxEpoch + 1, maxEpoch}, {maxEpoch + 7, maxEpoch}, {maxSeq, maxEpoch}, {math.MaxInt - 1, maxEpoch}, {math.MaxInt, maxEpoch},
	} {
		for _, epoch := range []int{0, 1, maxEpoch - 2} {
			e := stood(t, begun(t, epoch, 4, 4, true), 4, 1, 3, 1)
			if !e.hear(t, api.Frame{Epoch: x.epoch, Seq: 1, Data: "new"}) || e.l.Epoch() != x.counts || e.l.Unacked() != 0 || e.l.Waiting() != 1 {
				t.Fatalf("a frame of %d: epoch %d", x.epoch, e.l.Epoch())
			}
			if f := e.l.Frames(); !slices.Equal(f, []api.Frame{{Epoch: x.counts, Ack: 1}}) {
				t.Fatalf("a frame of %d: %v", x.epoch, f)
			}
			e.offer(t, "on")
			if e.hear(t, api.Frame{Epoch: x.counts, Seq: 2, Ack: 1, Data: "on"}) || e.l.Unacked() != 0 || e.l.Waiting() != 2 {
				t.Fatalf("a frame of %d: it doesn't hear its own epoch", x.epoch)
			}
		}
	}
	e := stood(t, begun(t, maxEpoch, 4, 4, true), 4, 1, 3, 1)
	e.deaf(t, of(maxEpoch-1)...)
	if e.hear(t, api.Frame{Epoch: maxEpoch, Seq: 4, Ack: 4, Data: in(4)}) || e.l.Unacked() != 0 || e.l.Waiting() != 3 {
		t.Fatal("a frame of the greatest epoch, heard in it")
	}
}

// TestEmptyData is P12.1 to P12.3: a piece without bytes is a piece, told apart from none by its Seq.
func TestEmptyData(t *testing.T) {
	e := begun(t, 1, 2, 2, true)
	e.pop(t)
	e.deaf(t, api.Frame{Epoch: 1}, api.Frame{Epoch: 1, Data: "a number's missing"})
	e.hear(t, api.Frame{Epoch: 1, Seq: 1})
	if e.l.Waiting() != 1 {
		t.Fatal("a piece without bytes doesn't wait")
	}
	if data, ok := e.l.Pop(); data != "" || !ok {
		t.Fatalf("Pop: %q %v", data, ok)
	}
	e.p.pop()
	e.pop(t)
	e.offer(t, "")
	if f := e.l.Frames(); !slices.Equal(f, []api.Frame{{Epoch: 1, Seq: 1, Ack: 1}}) || e.l.Unacked() != 1 {
		t.Fatalf("a piece without bytes offered: %v", f)
	}
	e.offer(t, "")
	e.refuses(t)
	e.hear(t, api.Frame{Epoch: 1, Ack: 2})
	if f := e.l.Frames(); !slices.Equal(f, []api.Frame{{Epoch: 1, Ack: 1}}) {
		t.Fatalf("all acknowledged: %v", f)
	}
	e.hear(t, api.Frame{Epoch: 2, Seq: 1})
	if e.l.Waiting() != 1 || e.l.Epoch() != 2 {
		t.Fatal("fresh by a piece without bytes")
	}
}

// TestData is P12.1 to P12.3: data comes back as it was, whatever it is.
func TestData(t *testing.T) {
	every := make([]byte, 256)
	for i := range every {
		every[i] = byte(i)
	}
	a, b := begun(t, 1, 1, 1, false), begun(t, 0, 1, 1, true)
	for _, data := range []string{"a", "\x00", "\xff", "a\x00b", "\xc3\xa9", "\xc3", "", string(every), strings.Repeat(string(every), 6), strings.Repeat("long", 1<<18), "a", "a"} {
		a.offer(t, data)
		b.hear(t, a.l.Frames()[0])
		a.hear(t, b.l.Frames()[0])
		if got, ok := b.l.Pop(); got != data || !ok {
			t.Fatalf("Pop: %.20q %v, not %.20q", got, ok, data)
		}
		b.p.pop()
	}
}

// TestFramesAreTheCallers is P12.2 and rule 5: the list, changed by the caller, changes nothing of the end, nor of another list.
func TestFramesAreTheCallers(t *testing.T) {
	for offered := range 7 {
		for acked := range offered + 1 {
			e := stood(t, begun(t, 3, 6, 6, false), offered, acked, 3, 1)
			one, other, want := e.l.Frames(), e.l.Frames(), e.p.frames()
			for i := range one {
				one[i] = api.Frame{Epoch: 9, Seq: 9, Ack: 9, Data: "the caller's"}
			}
			one = append(one, api.Frame{Epoch: 77}, api.Frame{Epoch: 78})
			clear(one[:cap(one)])
			holds(t, "list changed", e.l, e.p)
			if !slices.Equal(other, want) {
				t.Fatalf("the other list: %v, not %v", other, want)
			}
			e.offer(t, "one more")
			clear(one[:cap(one)])
			holds(t, "list changed, and offered", e.l, e.p)
		}
	}
}

// TestFramesStay is P12.2 and rule 5: later calls change nothing of a list, nor of the room behind it.
func TestFramesStay(t *testing.T) {
	for offered := range 7 {
		for acked := range offered + 1 {
			e := stood(t, begun(t, 3, 6, 6, true), offered, acked, 3, 1)
			l := e.l.Frames()
			before := slices.Clone(l[:cap(l)])
			for n := range 40 {
				e.l.Offer("later")
				e.l.Hear(api.Frame{Epoch: 3, Seq: n, Ack: n, Data: "later"})
				e.l.Frames()
				e.l.Pop()
			}
			e.l.Hear(api.Frame{Epoch: 4, Seq: 1, Data: "later still"})
			for range 7 {
				e.l.Offer("later still")
				e.l.Frames()
			}
			if !slices.Equal(l[:cap(l)], before) {
				t.Fatalf("%d pieces, %d of them acknowledged: %v, not %v", offered, acked, l[:cap(l)], before)
			}
		}
	}
}

// TestAskingChangesNothing is rule 6: Frames, Waiting, Unacked and Epoch, asked again, answer the same, and leave the end as it is.
func TestAskingChangesNothing(t *testing.T) {
	for epoch := range 3 {
		for offered := range 5 {
			e := stood(t, begun(t, epoch, 4, 4, true), offered, 0, 3, 1)
			before := copied(e.l)
			for range 5 {
				holds(t, "asked", e.l, e.p)
			}
			if !same(e.l, before) {
				t.Fatalf("asked, it is changed: %v, not %v", e.l, before)
			}
		}
	}
}

// TestHandedInStays is rule 5: data isn't changed, nor the room behind it, and isn't kept: changed later, it changes nothing.
func TestHandedInStays(t *testing.T) {
	room := []byte("some data, spare room")
	data := unsafe.String(&room[0], 9)
	l := New(0, 2, 2, true)
	for epoch := 1; epoch < 5; epoch++ {
		l.Hear(api.Frame{Epoch: epoch, Seq: 1, Data: data})
		l.Offer(data)
		l.Offer(unsafe.String(&room[5], 0))
		l.Frames()
		l.Hear(api.Frame{Epoch: epoch, Seq: 2, Ack: 1, Data: data})
		l.Pop()
	}
	if string(room) != "some data, spare room" {
		t.Errorf("changed: %q", room)
	}
	l = New(1, 2, 2, false)
	l.Offer(data)
	l.Hear(api.Frame{Epoch: 1, Seq: 1, Data: data})
	clear(room)
	holds(t, "what was handed in is changed", l, &plain{epoch: 1, window: 2, room: 2, offered: []string{"some data"}, came: []string{"some data"}})
}

// TestAnswersAreNew is rule 5: the data that Frames and Pop tell is in no memory of what was handed in, nor of another answer.
func TestAnswersAreNew(t *testing.T) {
	offered, came := strings.Clone("some data"), strings.Clone("other data")
	l := New(1, 2, 2, false)
	l.Offer(offered)
	l.Hear(api.Frame{Epoch: 1, Seq: 1, Data: came})
	popped, _ := l.Pop()
	seen := map[*byte]bool{unsafe.StringData(offered): true, unsafe.StringData(came): true}
	for _, s := range []string{l.Frames()[0].Data, l.Frames()[0].Data, popped} {
		if seen[unsafe.StringData(s)] {
			t.Errorf("%q is in memory that isn't its own", s)
		}
		seen[unsafe.StringData(s)] = true
	}
}

// TestEndsApart is P12.1 and rule 6: each New is an end of its own; two ends show nothing of each other but by the frames that are handed from one to the other.
func TestEndsApart(t *testing.T) {
	a, b := begun(t, 1, 2, 2, false), begun(t, 1, 2, 2, true)
	a.offer(t, "a1")
	a.offer(t, "a2")
	holds(t, "nothing was handed over", b.l, b.p)
	isFresh(t, "nothing was handed over", b.l, 1, 2, 2)
	isFresh(t, "one made later", New(1, 2, 2, true), 1, 2, 2)
	b.hear(t, a.l.Frames()[0])
	holds(t, "the other one heard", a.l, a.p)
	if a.l.Unacked() != 2 || b.l.Waiting() != 1 {
		t.Fatalf("%d unacknowledged, %d wait", a.l.Unacked(), b.l.Waiting())
	}
	b.hear(t, api.Frame{Epoch: 2})
	holds(t, "the other one is fresh", a.l, a.p)
	a.deaf(t, b.l.Frames()...)

	c := chance(7)
	var l []ends
	for i := range 8 {
		l = append(l, begun(t, i%3, 1+i*2, 16-i*2, i%2 == 0))
	}
	for range 3000 {
		e := l[c.below(len(l))]
		switch c.below(4) {
		case 0:
			e.pop(t)
		case 1:
			e.offer(t, out(len(e.p.offered)+1))
		default:
			e.hear(t, about(&c, e.p))
		}
		for _, other := range l {
			holds(t, "each one", other.l, other.p)
		}
	}
}

// chance gives numbers that look like chance, the same ones each time.
type chance uint64

func (c *chance) below(n int) int {
	*c = *c*6364136223846793005 + 1442695040888963407
	return int(uint64(*c) >> 33 % uint64(n))
}

// about is a frame with numbers about those that an end has now.
func about(c *chance, p *plain) api.Frame {
	f := api.Frame{Epoch: p.epoch, Seq: len(p.came) + c.below(4) - 1, Ack: p.acked + c.below(len(p.offered)-p.acked+3) - 1}
	if c.below(40) == 0 {
		f.Epoch += c.below(4) - 1
	}
	f.Data = "of " + strconv.Itoa(f.Epoch) + ", " + in(f.Seq)
	return f
}

// TestEachOrder is P12.1 to P12.3: each order of up to four calls, with small windows and rooms, behind a few others.
func TestEachOrder(t *testing.T) {
	var each func(e ends, more int)
	each = func(e ends, more int) {
		if more == 0 {
			return
		}
		c := e.copied()
		c.offer(t, out(len(c.p.offered)+1))
		each(c, more-1)
		c = e.copied()
		c.pop(t)
		each(c, more-1)
		for epoch := e.p.epoch - 1; epoch <= e.p.epoch+1; epoch++ {
			for seq := range 3 {
				for ack := range 3 {
					f := api.Frame{Epoch: epoch, Ack: len(e.p.offered) - 1 + ack}
					if seq > 0 {
						f.Seq, f.Data = len(e.p.came)+seq, in(len(e.p.came)+seq)+" of "+strconv.Itoa(epoch)
					}
					c = e.copied()
					c.hear(t, f)
					each(c, more-1)
				}
			}
		}
		holds(t, "whatever others did that began as it stands", e.l, e.p)
	}
	for window := 1; window <= 2; window++ {
		for room := 1; room <= 2; room++ {
			for _, passive := range []bool{false, true} {
				each(begun(t, 0, window, room, passive), 3)
				each(stood(t, begun(t, 1, window, room, passive), window, 0, room, 0), 3)
			}
		}
	}
	each(stood(t, begun(t, 1, 2, 2, true), 2, 1, 2, 1), 4)
}

// TestLongOrders is P12.1 to P12.3: long orders, with each window and room, passive and not.
func TestLongOrders(t *testing.T) {
	c := chance(1)
	for window := 1; window <= 16; window++ {
		for _, passive := range []bool{false, true} {
			e := begun(t, window%3, window, 17-window, passive)
			for range 2000 {
				switch c.below(5) {
				case 0:
					e.pop(t)
				case 1, 2:
					e.offer(t, out(len(e.p.offered)+1))
				default:
					e.hear(t, about(&c, e.p))
				}
			}
		}
	}
}
