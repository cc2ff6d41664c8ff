package sender

import (
	"math"
	"slices"
	"strconv"
	"strings"
	"testing"
	"unsafe"

	"chapbook/api"
)

const maxSeq = 1 << 50 // the greatest last number

// plain is a sender by the tests' own means: all data that was ever offered, and how many of them were acknowledged.
type plain struct {
	window, last int
	data         []string
	acked        int
}

func (p *plain) offer(data string) (int, api.Errno) {
	switch {
	case len(p.data)-p.acked == p.window:
		return 0, api.ErrFull
	case len(p.data) == p.last:
		return 0, api.ErrExhausted
	}
	p.data = append(p.data, data)
	return len(p.data), api.OK
}

func (p *plain) ack(n int) int {
	if n < 1 || n > len(p.data) || n < p.acked {
		return 0
	}
	gone := n - p.acked
	p.acked = n
	return gone
}

func (p *plain) pieces() []Piece {
	l := []Piece{}
	for i := p.acked; i < len(p.data); i++ {
		l = append(l, Piece{i + 1, p.data[i]})
	}
	return l
}

func (p *plain) copied() *plain {
	return &plain{p.window, p.last, slices.Clone(p.data), p.acked}
}

// holds looks whether a sender has just these pieces, and gave numbers up to sent.
func holds(t *testing.T, name string, s *Sender, sent int, want ...Piece) {
	t.Helper()
	if n := s.Sent(); n != sent {
		t.Fatalf("%s: Sent %d, not %d", name, n, sent)
	}
	if n := s.Unacked(); n != len(want) {
		t.Fatalf("%s: Unacked %d, not %d", name, n, len(want))
	}
	if l := s.Pieces(); !slices.Equal(l, want) {
		t.Fatalf("%s: Pieces %.200v, not %.200v", name, l, want)
	}
}

// offers looks what Offer answers.
func offers(t *testing.T, s *Sender, data string, want int, wantErr api.Errno) {
	t.Helper()
	if n, e := s.Offer(data); n != want || e != wantErr {
		t.Fatalf("Offer %.20q: %d %d, not %d %d", data, n, e, want, wantErr)
	}
}

// refuses looks whether Offer answers that error, and no number, and changes nothing.
func refuses(t *testing.T, s *Sender, want api.Errno) {
	t.Helper()
	sent, pieces := s.Sent(), s.Pieces()
	for _, data := range []string{"", "refused", strings.Repeat("r", 1000)} {
		offers(t, s, data, 0, want)
		holds(t, "behind a refused offer", s, sent, pieces...)
	}
}

// acks looks what Ack answers.
func acks(t *testing.T, s *Sender, n, want int) {
	t.Helper()
	if got := s.Ack(n); got != want {
		t.Fatalf("Ack %d: %d, not %d", n, got, want)
	}
}

// deaf looks whether acknowledgements answer 0, and change nothing.
func deaf(t *testing.T, s *Sender, l ...int) {
	t.Helper()
	sent, pieces := s.Sent(), s.Pieces()
	for _, n := range l {
		acks(t, s, n, 0)
		holds(t, "behind Ack "+strconv.Itoa(n), s, sent, pieces...)
	}
}

// text is the data that stands at a number.
func text(n int) string { return "data " + strconv.Itoa(n) }

// from: the pieces from a number up to another one.
func from(first, last int) []Piece {
	l := []Piece{}
	for n := first; n <= last; n++ {
		l = append(l, Piece{n, text(n)})
	}
	return l
}

// offered is a sender to which so many were offered, all but the last ones acknowledged as soon as they were.
func offered(t *testing.T, window, last, many, acked int) *Sender {
	t.Helper()
	s := New(window, last)
	for n := 1; n <= many; n++ {
		offers(t, s, text(n), n, api.OK)
		if n <= acked {
			acks(t, s, n, 1)
		}
	}
	holds(t, "offered", s, many, from(acked+1, many)...)
	return s
}

// near is a new sender that stands as if so many numbers were given and acknowledged: no test can wait for 2^50 offers.
func near(window, last, sent int) *Sender {
	s := New(window, last)
	s.sent = sent
	return s
}

// nearerWindows: windows, and as which they count.
func nearerWindows() map[int]int {
	m := map[int]int{0: 1, -1: 1, -16: 1, -17: 1, math.MinInt: 1, math.MinInt + 1: 1, -1 << 32: 1, 17: 16, 18: 16, 99: 16, 1 << 16: 16, 1<<32 + 3: 16, 1<<62 + 1: 16, math.MaxInt: 16}
	for n := 1; n <= 16; n++ {
		m[n] = n
	}
	return m
}

// TestDocumentExample is P10.2: the chapter's.
func TestDocumentExample(t *testing.T) {
	s := New(2, 99)
	offers(t, s, "a", 1, api.OK)
	offers(t, s, "b", 2, api.OK)
	offers(t, s, "c", 0, api.ErrFull)
	acks(t, s, 1, 1)
	offers(t, s, "c", 3, api.OK)
	holds(t, "the example", s, 3, Piece{2, "b"}, Piece{3, "c"})
}

// TestNew is P10.1: nothing was offered, whatever the window and the last number; and each New is a sender of its own.
func TestNew(t *testing.T) {
	for window := range nearerWindows() {
		for _, last := range []int{math.MinInt, -1, 0, 1, 2, 99, maxSeq, maxSeq + 1, math.MaxInt} {
			s := New(window, last)
			holds(t, "new", s, 0)
			deaf(t, s, math.MinInt, -1, 0, 1, 2, 16, 17, maxSeq, math.MaxInt)
		}
	}
	one, other := New(2, 9), New(2, 9)
	offers(t, one, "a", 1, api.OK)
	holds(t, "the other one", other, 0)
	holds(t, "one made later", New(2, 9), 0)
	offers(t, other, "b", 1, api.OK)
	acks(t, other, 1, 1)
	holds(t, "the one", one, 1, Piece{1, "a"})
}

// TestWindow is P10.1 and P10.2: just as many pieces as the window, and not one more; one goes, and one more may come.
func TestWindow(t *testing.T) {
	for window, most := range nearerWindows() {
		s := New(window, 99)
		for n := 1; n <= most; n++ {
			holds(t, "filling", s, n-1, from(1, n-1)...)
			offers(t, s, text(n), n, api.OK)
		}
		refuses(t, s, api.ErrFull)
		holds(t, "full", s, most, from(1, most)...)
		acks(t, s, 1, 1)
		offers(t, s, text(most+1), most+1, api.OK)
		refuses(t, s, api.ErrFull)
		holds(t, "full again", s, most+1, from(2, most+1)...)
		acks(t, s, most+1, most)
		for n := most + 2; n <= 2*most+1; n++ {
			offers(t, s, text(n), n, api.OK)
		}
		refuses(t, s, api.ErrFull)
		holds(t, "full of others", s, 2*most+1, from(most+2, 2*most+1)...)
	}
}

// TestLast is P10.1 and P10.2: each number up to the last one is given once; then ErrExhausted, with pieces left and without.
func TestLast(t *testing.T) {
	for _, x := range []struct{ last, counts int }{{0, 0}, {-1, 0}, {-2, 0}, {-maxSeq, 0}, {math.MinInt + 1, 0}, {math.MinInt, 0}, {1, 1}, {2, 2}, {3, 3}, {15, 15}, {16, 16}, {17, 17}, {40, 40}} {
		for window, most := range nearerWindows() {
			s := New(window, x.last)
			for n := 1; n <= x.counts; n++ {
				offers(t, s, text(n), n, api.OK)
				if n < x.counts {
					acks(t, s, n-most+1, min(1, n/most)) // room for the next one, and for no other
				}
			}
			first := max(1, x.counts-most+1)
			holds(t, "all given", s, x.counts, from(first, x.counts)...)
			if x.counts >= most {
				refuses(t, s, api.ErrFull)
			} else {
				refuses(t, s, api.ErrExhausted)
			}
			for n := first; n <= x.counts; n++ {
				acks(t, s, n, 1)
				refuses(t, s, api.ErrExhausted)
				holds(t, "all given, some gone", s, x.counts, from(n+1, x.counts)...)
			}
			refuses(t, s, api.ErrExhausted)
			deaf(t, s, x.counts, x.counts+1, x.last, 1, 0)
		}
	}
}

// TestGreatLast is P10.1 and P10.2: last numbers about 2^50, at their end.
func TestGreatLast(t *testing.T) {
	for _, x := range []struct{ last, counts int }{
		{1 << 32, 1 << 32}, {1<<40 + 1, 1<<40 + 1}, {maxSeq - 1, maxSeq - 1}, {maxSeq, maxSeq},
		{maxSeq + 1, maxSeq}, {maxSeq + 2, maxSeq}, {2 * maxSeq, maxSeq}, {1 << 62, maxSeq}, {math.MaxInt - 1, maxSeq}, {math.MaxInt, maxSeq},
	} {
		c := x.counts
		s := near(3, x.last, c-2)
		holds(t, "near the end", s, c-2)
		offers(t, s, "x", c-1, api.OK)
		offers(t, s, "y", c, api.OK)
		holds(t, "at the end", s, c, Piece{c - 1, "x"}, Piece{c, "y"})
		refuses(t, s, api.ErrExhausted)
		deaf(t, s, c+1, math.MaxInt, c-2, 1, 0, -c)
		acks(t, s, c-1, 1)
		refuses(t, s, api.ErrExhausted)
		acks(t, s, c, 1)
		refuses(t, s, api.ErrExhausted)
		holds(t, "over", s, c)
		s = near(2, x.last, c-2)
		offers(t, s, "x", c-1, api.OK)
		offers(t, s, "y", c, api.OK)
		refuses(t, s, api.ErrFull)
		acks(t, s, c, 2)
		refuses(t, s, api.ErrExhausted)
	}
}

// TestFullIsToldFirst is P10.2: where both errors would be, ErrFull.
func TestFullIsToldFirst(t *testing.T) {
	for window := 1; window <= 16; window++ {
		s := offered(t, window, window, window, 0)
		refuses(t, s, api.ErrFull)
		acks(t, s, 1, 1)
		refuses(t, s, api.ErrExhausted)
		s = offered(t, window, 2*window, 2*window, window)
		refuses(t, s, api.ErrFull)
		acks(t, s, 2*window, window)
		refuses(t, s, api.ErrExhausted)
	}
}

// TestAck is P10.2: each number, with each many pieces, of which each many were acknowledged before.
func TestAck(t *testing.T) {
	for many := range 17 {
		for acked := range many + 1 {
			for n := -2; n <= many+3; n++ {
				s := offered(t, 16, 99, many, acked)
				if n <= acked || n > many {
					deaf(t, s, n)
					continue
				}
				acks(t, s, n, n-acked)
				holds(t, "behind Ack", s, many, from(n+1, many)...)
				deaf(t, s, n, acked, many+1)
				offers(t, s, text(many+1), many+1, api.OK)
				holds(t, "offered behind Ack", s, many+1, from(n+1, many+1)...)
				acks(t, s, many+1, many+1-n)
				holds(t, "all acknowledged", s, many+1)
			}
		}
	}
}

// TestAckOfWrong is P10.2: numbers that weren't given, or were acknowledged before.
func TestAckOfWrong(t *testing.T) {
	wrong := []int{0, -1, -2, -3, -16, -maxSeq, math.MinInt, math.MinInt + 1, 8, 9, 16, 17, 99, 100, 1 << 32, 1<<32 + 6, maxSeq, maxSeq + 1, math.MaxInt - 1, math.MaxInt}
	for acked := range 8 {
		s := offered(t, 16, 99, 7, acked)
		deaf(t, s, wrong...)
		for n := 1; n <= acked; n++ {
			deaf(t, s, n)
		}
		acks(t, s, 7, 7-acked)
		deaf(t, s, wrong...)
		deaf(t, s, 1, 2, 3, 4, 5, 6, 7)
	}
	s := near(16, maxSeq, maxSeq-1)
	offers(t, s, "x", maxSeq, api.OK)
	for _, n := range wrong {
		if n != maxSeq {
			deaf(t, s, n)
		}
	}
	acks(t, s, maxSeq, 1)
	deaf(t, s, wrong...)
}

// TestData is P10.2: data comes back as it was offered, whatever it is.
func TestData(t *testing.T) {
	every := make([]byte, 256)
	for i := range every {
		every[i] = byte(i)
	}
	l := []string{"", "a", "\x00", "\xff", "a\x00b", "\xc3\xa9", "\xc3", string(every), strings.Repeat(string(every), 6), strings.Repeat("long", 1<<18), "", "a", "a"}
	for i := range every {
		l = append(l, string(every[i:i+1]))
	}
	s := New(16, maxSeq)
	p := &plain{window: 16, last: maxSeq}
	for i, data := range l {
		acks(t, s, i-15, p.ack(i-15))
		p.offer(data)
		offers(t, s, data, i+1, api.OK)
		holds(t, "data", s, i+1, p.pieces()...)
	}
}

// TestEmptyDataIsAPiece is P10.2: data without bytes has a number, and takes its room.
func TestEmptyDataIsAPiece(t *testing.T) {
	s := New(2, 3)
	offers(t, s, "", 1, api.OK)
	offers(t, s, "", 2, api.OK)
	holds(t, "empty data", s, 2, Piece{1, ""}, Piece{2, ""})
	refuses(t, s, api.ErrFull)
	acks(t, s, 1, 1)
	offers(t, s, "", 3, api.OK)
	holds(t, "empty data", s, 3, Piece{2, ""}, Piece{3, ""})
	acks(t, s, 3, 2)
	refuses(t, s, api.ErrExhausted)
}

// TestManyTimesOver is P10.2 and P10.3: all offered and acknowledged, again and again: the numbers go on without gaps.
func TestManyTimesOver(t *testing.T) {
	for _, window := range []int{1, 2, 3, 15, 16} {
		s := New(window, maxSeq)
		sent := 0
		for range 2000 {
			for range window {
				sent++
				offers(t, s, text(sent), sent, api.OK)
			}
			refuses(t, s, api.ErrFull)
			holds(t, "full", s, sent, from(sent-window+1, sent)...)
			acks(t, s, sent, window)
			holds(t, "all gone", s, sent)
			deaf(t, s, sent, sent+1, 1)
		}
	}
}

// TestSliding is P10.2 and P10.3: the window goes on by one piece, many times over.
func TestSliding(t *testing.T) {
	for window := 1; window <= 16; window++ {
		s := offered(t, window, maxSeq, window, 0)
		for n := window + 1; n < 1000; n++ {
			acks(t, s, n-window, 1)
			offers(t, s, text(n), n, api.OK)
			holds(t, "sliding", s, n, from(n-window+1, n)...)
		}
	}
}

// both does a thing to a sender and to a plain one: 0 offers, others acknowledge a number about those that are on their way.
func both(t *testing.T, s *Sender, p *plain, thing int) {
	t.Helper()
	if thing == 0 {
		data := text(len(p.data) + 1)
		n, e := p.offer(data)
		offers(t, s, data, n, e)
	} else {
		n := p.acked + thing - 2
		acks(t, s, n, p.ack(n))
	}
	holds(t, "as a plain one", s, len(p.data), p.pieces()...)
	standOneBehindTheOther(t, s)
}

// standOneBehindTheOther is P10.3, by what the sender tells alone.
func standOneBehindTheOther(t *testing.T, s *Sender) {
	t.Helper()
	l := s.Pieces()
	for i, x := range l {
		if x.Seq != s.Sent()-len(l)+1+i || x.Seq < 1 {
			t.Fatalf("%d pieces up to %d: number %d at the place %d", len(l), s.Sent(), x.Seq, i)
		}
	}
}

// TestEachOrder is P10.2 and P10.3: each order of up to six offers and acknowledgements, with small windows and last numbers.
func TestEachOrder(t *testing.T) {
	for window := 1; window <= 3; window++ {
		for _, last := range []int{0, 1, 2, 3, 4, 99} {
			var try func(s *Sender, p *plain, more int)
			try = func(s *Sender, p *plain, more int) {
				if more == 0 {
					return
				}
				for thing := range 6 {
					c, q := s.Copy(), p.copied()
					both(t, c, q, thing)
					try(c, q, more-1)
				}
				holds(t, "whatever its copies did", s, len(p.data), p.pieces()...)
			}
			try(New(window, last), &plain{window: window, last: last}, 6)
		}
	}
}

// chance gives numbers that look like chance, the same ones each time.
type chance uint64

func (c *chance) below(n int) int {
	*c = *c*6364136223846793005 + 1442695040888963407
	return int(uint64(*c) >> 33 % uint64(n))
}

// TestLongOrders is P10.2 and P10.3: long orders, with each window.
func TestLongOrders(t *testing.T) {
	c := chance(1)
	for window := 1; window <= 16; window++ {
		for _, last := range []int{5, 100, 900, maxSeq} {
			s, p := New(window, last), &plain{window: window, last: last}
			for range 1500 {
				thing := 0
				if c.below(3) == 0 {
					thing = 1 + c.below(window+5)
				}
				both(t, s, p, thing)
			}
		}
	}
}

// TestPiecesAreTheCallers is P10.2 and rule 5: the list, changed by the caller, changes nothing of the sender, nor of another list.
func TestPiecesAreTheCallers(t *testing.T) {
	for many := range 17 {
		for acked := range many + 1 {
			s := offered(t, 16, 99, many, acked)
			one, other := s.Pieces(), s.Pieces()
			clear(one)
			one = append(one[:0], make([]Piece, len(one))...)
			one = append(one, Piece{77, "the caller's"}, Piece{78, "the caller's"})
			clear(one[:cap(one)])
			holds(t, "list changed", s, many, from(acked+1, many)...)
			if !slices.Equal(other, from(acked+1, many)) {
				t.Fatalf("the other list: %v", other)
			}
			if many-acked < 16 {
				offers(t, s, text(many+1), many+1, api.OK)
				clear(one[:cap(one)])
				holds(t, "list changed, and offered", s, many+1, from(acked+1, many+1)...)
			}
		}
	}
}

// TestPiecesStay is P10.2 and rule 5: later calls change nothing of a list, nor of the room behind it.
func TestPiecesStay(t *testing.T) {
	for many := range 17 {
		for acked := range many + 1 {
			s := offered(t, 16, 99, many, acked)
			l := s.Pieces()
			before := slices.Clone(l[:cap(l)])
			for n := acked + 1; n <= many; n++ {
				acks(t, s, n, 1)
				s.Offer("later")
			}
			for range 17 {
				s.Offer("later")
				s.Copy().Offer("later still")
			}
			acks(t, s, s.Sent(), s.Unacked())
			s.Offer("last")
			if !slices.Equal(l[:cap(l)], before) {
				t.Fatalf("%d pieces, %d of them acknowledged: %v, not %v", many, acked, l[:cap(l)], before)
			}
		}
	}
}

// TestCopy is P10.1: a copy is as the first one: pieces, numbers, window and last number.
func TestCopy(t *testing.T) {
	for _, window := range []int{-1, 1, 2, 5, 16, 17} {
		for _, last := range []int{-1, 0, 1, 5, 16, 40} {
			s, p := New(window, last), &plain{window: min(max(window, 1), 16), last: max(last, 0)}
			for i := range 60 {
				c, q := s.Copy(), p.copied()
				holds(t, "copy", c, len(p.data), p.pieces()...)
				for range 20 {
					both(t, c, q, 0)
				}
				for range 20 {
					both(t, c, q, 3)
					both(t, c, q, 0)
				}
				holds(t, "first one", s, len(p.data), p.pieces()...)
				both(t, s, p, i%4)
			}
		}
	}
}

// TestCopyOfNothing is P10.1: a copy of a new sender, and of one whose pieces are all acknowledged.
func TestCopyOfNothing(t *testing.T) {
	s := New(1, 2)
	c := s.Copy()
	offers(t, s, "s", 1, api.OK)
	holds(t, "copy", c, 0)
	offers(t, c, "c", 1, api.OK)
	holds(t, "first one", s, 1, Piece{1, "s"})
	holds(t, "copy", c, 1, Piece{1, "c"})
	acks(t, s, 1, 1)
	d := s.Copy()
	holds(t, "copy of the second piece's time", d, 1)
	offers(t, d, "d", 2, api.OK)
	refuses(t, d, api.ErrFull)
	acks(t, d, 2, 1)
	refuses(t, d, api.ErrExhausted)
	holds(t, "first one", s, 1)
	offers(t, s, "s2", 2, api.OK)
	holds(t, "first one", s, 2, Piece{2, "s2"})
	holds(t, "its first copy", c, 1, Piece{1, "c"})
}

// TestCopiesGoTheirOwnWays is P10.1: several senders, copied from each other at any time, whatever is done to each.
func TestCopiesGoTheirOwnWays(t *testing.T) {
	c := chance(7)
	for window := 1; window <= 16; window++ {
		s := []*Sender{New(window, 300)}
		p := []*plain{{window: window, last: 300}}
		for range 1500 {
			i := c.below(len(s))
			switch {
			case c.below(20) == 0 && len(s) < 6:
				s, p = append(s, s[i].Copy()), append(p, p[i].copied())
			case c.below(3) == 0:
				n := p[i].acked + c.below(window+3) - 1
				acks(t, s[i], n, p[i].ack(n))
			default:
				data := "sender " + strconv.Itoa(i) + " " + text(len(p[i].data))
				n, e := p[i].offer(data)
				offers(t, s[i], data, n, e)
			}
			for j := range s {
				holds(t, "sender "+strconv.Itoa(j), s[j], len(p[j].data), p[j].pieces()...)
			}
		}
	}
}

// TestAskingChangesNothing is rule 6: Pieces, Unacked, Sent and Copy, asked again, answer the same.
func TestAskingChangesNothing(t *testing.T) {
	s := offered(t, 4, 9, 6, 3)
	for range 5 {
		s.Copy()
		holds(t, "asked", s, 6, from(4, 6)...)
	}
	offers(t, s, text(7), 7, api.OK)
	refuses(t, s, api.ErrFull)
}

// TestHandedInStays is rule 5: data isn't changed, nor the room behind it, and isn't kept: changed later, it changes nothing.
func TestHandedInStays(t *testing.T) {
	room := []byte("some data, spare room")
	s := New(2, 9)
	for range 4 {
		s.Offer(unsafe.String(&room[0], 9))
		s.Offer(unsafe.String(&room[0], 0))
		s.Ack(s.Sent() - 1)
	}
	if string(room) != "some data, spare room" {
		t.Errorf("changed: %q", room)
	}
	s = New(2, 9)
	s.Offer(unsafe.String(&room[0], 9))
	clear(room)
	holds(t, "what was handed in is changed", s, 1, Piece{1, "some data"})
}

// TestAnswersAreNew is rule 5: the data that Pieces tells is in no memory of the sender's, nor of what was handed in, nor of another answer.
func TestAnswersAreNew(t *testing.T) {
	data := strings.Clone("some data")
	s := New(2, 9)
	s.Offer(data)
	kept := unsafe.StringData(s.pieces[0].Data)
	one, other, of := s.Pieces(), s.Pieces(), s.Copy().Pieces()
	for _, l := range [][]Piece{one, other, of} {
		if d := unsafe.StringData(l[0].Data); d == unsafe.StringData(data) || d == kept {
			t.Error("an answer's data is in memory that isn't its own")
		}
	}
	if unsafe.StringData(one[0].Data) == unsafe.StringData(other[0].Data) {
		t.Error("two answers have one memory")
	}
}

// TestGoneIsGone is the chapter's section 'Ways': the room of what was acknowledged is cleared, and the rest is cut without spare room.
func TestGoneIsGone(t *testing.T) {
	for many := 1; many <= 16; many++ {
		for n := 1; n <= many; n++ {
			s := offered(t, 16, 99, many, 0)
			room := s.pieces[:many]
			acks(t, s, n, n)
			for i := range n {
				if room[i] != (Piece{}) {
					t.Fatalf("Ack %d of %d: %v is kept", n, many, room[i])
				}
			}
			if len(s.pieces) != many-n || cap(s.pieces) != many-n {
				t.Fatalf("Ack %d of %d: %d pieces, room for %d", n, many, len(s.pieces), cap(s.pieces))
			}
			if n < many && &s.pieces[0] != &room[n] {
				t.Fatalf("Ack %d of %d: the rest was moved, not cut", n, many)
			}
		}
	}
}
