package receiver

import (
	"math"
	"slices"
	"strconv"
	"strings"
	"testing"
	"unsafe"
)

const maxSeq = 1 << 50 // the greatest number that a sender gives

// plain is a receiver by the tests' own means: all data that was ever taken, and how many of them were popped.
type plain struct {
	room   int
	data   []string
	popped int
}

func (p *plain) hear(seq int, data string) bool {
	if len(p.data)-p.popped == p.room || seq-len(p.data) != 1 {
		return false
	}
	p.data = append(p.data, data)
	return true
}

func (p *plain) pop() (string, bool) {
	if p.popped == len(p.data) {
		return "", false
	}
	p.popped++
	return p.data[p.popped-1], true
}

func (p *plain) waiting() []string { return p.data[p.popped:] }

func (p *plain) copied() *plain {
	return &plain{p.room, slices.Clone(p.data), p.popped}
}

// holds looks whether a receiver took numbers up to ack, and just these pieces wait: by what it tells, and by popping them all of another one that is as this one.
func holds(t *testing.T, name string, r *Receiver, ack int, want ...string) {
	t.Helper()
	if n := r.Ack(); n != ack {
		t.Fatalf("%s: Ack %d, not %d", name, n, ack)
	}
	if n := r.Waiting(); n != len(want) {
		t.Fatalf("%s: Waiting %d, not %d", name, n, len(want))
	}
	if l := r.Look(); !slices.Equal(l, want) {
		t.Fatalf("%s: Look %.200q, not %.200q", name, l, want)
	}
	c := *r
	for i, data := range want {
		if got, ok := c.Pop(); got != data || !ok {
			t.Fatalf("%s: Pop %d: %.20q %v, not %.20q", name, i, got, ok, data)
		}
	}
	if got, ok := c.Pop(); got != "" || ok {
		t.Fatalf("%s: Pop of none: %.20q %v", name, got, ok)
	}
}

// takes looks whether a piece is taken.
func takes(t *testing.T, r *Receiver, seq int, data string) {
	t.Helper()
	if !r.Hear(seq, data) {
		t.Fatalf("Hear %d %.20q: false (Ack %d, Waiting %d)", seq, data, r.Ack(), r.Waiting())
	}
}

// deaf looks whether no piece of these numbers is taken, and nothing is changed.
func deaf(t *testing.T, r *Receiver, l ...int) {
	t.Helper()
	ack, waiting, before := r.Ack(), r.Look(), *r
	for _, n := range l {
		for _, data := range []string{"", "refused", strings.Repeat("r", 1000)} {
			if r.Hear(n, data) {
				t.Fatalf("Hear %d %.20q: true (Ack %d, Waiting %d)", n, data, ack, len(waiting))
			}
			if *r != before {
				t.Fatalf("Hear %d %.20q changed something", n, data)
			}
		}
		holds(t, "behind Hear "+strconv.Itoa(n), r, ack, waiting...)
	}
}

// pops looks what Pop answers.
func pops(t *testing.T, r *Receiver, want string) {
	t.Helper()
	if data, ok := r.Pop(); data != want || !ok {
		t.Fatalf("Pop: %.20q %v, not %.20q true", data, ok, want)
	}
}

// dry looks whether Pop finds none, however often, and changes nothing.
func dry(t *testing.T, r *Receiver) {
	t.Helper()
	ack := r.Ack()
	for range 3 {
		if data, ok := r.Pop(); data != "" || ok {
			t.Fatalf("Pop of none: %.20q %v", data, ok)
		}
		holds(t, "behind Pop of none", r, ack)
	}
}

// text is the data that comes with a number.
func text(n int) string { return "data " + strconv.Itoa(n) }

// from: the data of the numbers from one up to another one.
func from(first, last int) []string {
	l := []string{}
	for n := first; n <= last; n++ {
		l = append(l, text(n))
	}
	return l
}

// heard is a receiver that took so many pieces, the first ones of which were popped as soon as they came.
func heard(t *testing.T, room, many, popped int) *Receiver {
	t.Helper()
	r := New(room)
	for n := 1; n <= many; n++ {
		takes(t, r, n, text(n))
		if n <= popped {
			pops(t, r, text(n))
		}
	}
	holds(t, "heard", r, many, from(popped+1, many)...)
	return r
}

// near is a new receiver that stands as if so many pieces were taken and popped: no test can wait for 2^50 of them.
func near(room, ack int) *Receiver {
	r := New(room)
	r.ack = ack
	return r
}

// nearerRooms: rooms, and as which they count.
func nearerRooms() map[int]int {
	m := map[int]int{0: 1, -1: 1, -2: 1, -16: 1, -17: 1, math.MinInt: 1, math.MinInt + 1: 1, -1 << 32: 1, 17: 16, 18: 16, 32: 16, 99: 16, 256: 16, 1 << 16: 16, 1 << 32: 16, 1<<32 + 3: 16, 1<<62 + 1: 16, math.MaxInt: 16}
	for n := 1; n <= 16; n++ {
		m[n] = n
	}
	return m
}

// wrong: numbers that are wrong for a receiver that took some 20 pieces at most.
func wrong() []int {
	return []int{0, -1, -2, -15, -16, -17, -maxSeq, math.MinInt, math.MinInt + 1, math.MinInt + 16, 99, 100, 1 << 32, 1<<32 + 1, 1<<32 + 6, maxSeq, maxSeq + 1, math.MaxInt - 1, math.MaxInt}
}

// TestDocumentExample is P11.2: the chapter's.
func TestDocumentExample(t *testing.T) {
	for room := 2; room <= 16; room++ {
		r := New(room)
		for _, x := range []struct {
			seq  int
			want bool
		}{{2, false}, {1, true}, {1, false}, {2, true}} {
			if got := r.Hear(x.seq, text(x.seq)); got != x.want {
				t.Fatalf("room %d: Hear %d: %v", room, x.seq, got)
			}
		}
		holds(t, "the example", r, 2, text(1), text(2))
	}
}

// TestNew is P11.1: nothing came, whatever the room.
func TestNew(t *testing.T) {
	for room := range nearerRooms() {
		r := New(room)
		holds(t, "new", r, 0)
		dry(t, r)
		deaf(t, r, wrong()...)
		deaf(t, r, 2, 3, 15, 16, 17, 18)
		dry(t, r)
		takes(t, r, 1, "first")
		holds(t, "the first one came", r, 1, "first")
	}
}

// TestRoom is P11.1 and P11.2: just as many pieces wait as there is room for; the next one is refused, and taken once there is room.
func TestRoom(t *testing.T) {
	for room, most := range nearerRooms() {
		r := New(room)
		for n := 1; n <= most; n++ {
			holds(t, "filling", r, n-1, from(1, n-1)...)
			takes(t, r, n, text(n))
		}
		for n := most + 1; n <= 3*most+20; n++ {
			deaf(t, r, n, n-1, n+1)
			holds(t, "full", r, n-1, from(n-most, n-1)...)
			pops(t, r, text(n-most))
			holds(t, "one popped", r, n-1, from(n-most+1, n-1)...)
			takes(t, r, n, text(n))
		}
		deaf(t, r, 3*most+21)
		deaf(t, r, wrong()...)
	}
}

// TestRoomForSeveral is P11.2: popped by so many, just so many more are taken.
func TestRoomForSeveral(t *testing.T) {
	for room := 1; room <= 16; room++ {
		for shift := range 17 {
			for gone := range room + 1 {
				r := heard(t, room, room+shift, shift)
				deaf(t, r, room+shift+1)
				for n := 1; n <= gone; n++ {
					pops(t, r, text(shift+n))
				}
				for n := 1; n <= gone; n++ {
					takes(t, r, room+shift+n, text(room+shift+n))
				}
				deaf(t, r, room+shift+gone+1)
				holds(t, "full again", r, room+shift+gone, from(shift+gone+1, room+shift+gone)...)
			}
		}
	}
}

// TestHear is P11.2: each number, with each many pieces taken, of which each many were popped before.
func TestHear(t *testing.T) {
	for many := range 20 {
		for popped := max(0, many-16); popped <= many; popped++ {
			r := heard(t, 16, many, popped)
			for n := -20; n <= many+40; n++ {
				if n != many+1 {
					deaf(t, r, n)
				}
			}
			deaf(t, r, wrong()...)
			if many-popped == 16 {
				deaf(t, r, many+1)
				continue
			}
			takes(t, r, many+1, text(many+1))
			holds(t, "the next one came", r, many+1, from(popped+1, many+1)...)
			deaf(t, r, many+1, many, many+3, 1, 0)
		}
	}
}

// TestWrongWhileFull is P11.2: where there is no room, no number is taken.
func TestWrongWhileFull(t *testing.T) {
	for room := 1; room <= 16; room++ {
		for shift := range 18 {
			r := heard(t, room, room+shift, shift)
			for n := -2; n <= room+shift+20; n++ {
				deaf(t, r, n)
			}
			deaf(t, r, wrong()...)
		}
	}
}

// TestRefusedLeavesNoTrace is P11.2: what came too early isn't laid by for later: the number's own data is what is taken, once it is the next one.
func TestRefusedLeavesNoTrace(t *testing.T) {
	r := New(4)
	for n := 2; n <= 20; n++ {
		deaf(t, r, n)
	}
	for n := 1; n <= 4; n++ {
		takes(t, r, n, text(n))
		holds(t, "one by one", r, n, from(1, n)...)
	}
	r.Hear(5, "came while there was no room")
	pops(t, r, text(1))
	holds(t, "there is room, and nothing came since", r, 4, from(2, 4)...)
	takes(t, r, 5, text(5))
	r.Hear(5, "doubled, and spoilt")
	r.Hear(2, "late")
	holds(t, "the fifth one", r, 5, from(2, 5)...)
}

// TestGreatNumbers is P11.1 and P11.2: numbers about 2^50, and those where an int of 32 bits would end.
func TestGreatNumbers(t *testing.T) {
	for _, start := range []int{1<<31 - 3, 1<<32 - 3, 1 << 40, maxSeq - 20, maxSeq - 2} {
		for room := 1; room <= 16; room++ {
			r := near(room, start)
			holds(t, "near", r, start)
			dry(t, r)
			for n := start + 1; n <= start+40; n++ {
				if n > start+room {
					deaf(t, r, n)
					pops(t, r, text(n-room))
				}
				deaf(t, r, n-1, n+1, n-1<<32, n+1<<32, n-maxSeq, n+maxSeq, -n, n-16, n+16, 0, 1, math.MinInt, math.MaxInt)
				takes(t, r, n, text(n))
				holds(t, "great number", r, n, from(max(start, n-room)+1, n)...)
			}
		}
	}
}

// TestPop is P11.2: the pieces are popped in the order in which they came, each once, and the numbers stay taken.
func TestPop(t *testing.T) {
	for many := range 17 {
		for shift := range 17 {
			r := heard(t, 16, shift+many, shift)
			for n := shift + 1; n <= shift+many; n++ {
				pops(t, r, text(n))
				holds(t, "popped", r, shift+many, from(n+1, shift+many)...)
				deaf(t, r, n, shift+many, shift+many+2)
			}
			dry(t, r)
			deaf(t, r, shift+many, shift+many+2, 0)
		}
	}
}

// TestPopOfNone is P11.2: it changes nothing, so that the next piece is taken and popped as ever.
func TestPopOfNone(t *testing.T) {
	for room := 1; room <= 16; room++ {
		r := New(room)
		for n := 1; n <= 50; n++ {
			dry(t, r)
			takes(t, r, n, text(n))
			pops(t, r, text(n))
		}
		dry(t, r)
		for n := 51; n < 51+room; n++ {
			takes(t, r, n, text(n))
		}
		holds(t, "full", r, 50+room, from(51, 50+room)...)
		deaf(t, r, 51+room)
	}
}

// TestData is P11.2: data comes back as it came, whatever it is.
func TestData(t *testing.T) {
	every := make([]byte, 256)
	for i := range every {
		every[i] = byte(i)
	}
	l := []string{"", "a", "\x00", "\xff", "a\x00b", "\xc3\xa9", "\xc3", string(every), strings.Repeat(string(every), 6), strings.Repeat("long", 1<<18), "", "a", "a"}
	for i := range every {
		l = append(l, string(every[i:i+1]))
	}
	r := New(16)
	for i, data := range l {
		if i >= 16 {
			pops(t, r, l[i-16])
		}
		takes(t, r, i+1, data)
		holds(t, "data", r, i+1, l[max(0, i-15):i+1]...)
	}
}

// TestEmptyDataIsAPiece is P11.2: data without bytes is taken, takes its room, and is told apart from none.
func TestEmptyDataIsAPiece(t *testing.T) {
	r := New(2)
	dry(t, r)
	takes(t, r, 1, "")
	holds(t, "one", r, 1, "")
	takes(t, r, 2, "")
	holds(t, "two", r, 2, "", "")
	deaf(t, r, 3)
	pops(t, r, "")
	holds(t, "one popped", r, 2, "")
	takes(t, r, 3, "x")
	holds(t, "one behind it", r, 3, "", "x")
	pops(t, r, "")
	pops(t, r, "x")
	dry(t, r)
	takes(t, r, 4, "")
	deaf(t, r, 4, 3)
	pops(t, r, "")
	dry(t, r)
}

// TestManyTimesOver is P11.2 and P11.3: all popped and heard anew, so that the ring goes round with each many pieces in it.
func TestManyTimesOver(t *testing.T) {
	for room := 1; room <= 16; room++ {
		for many := 1; many <= room; many++ {
			r := New(room)
			ack := 0
			for range 50 {
				for range many {
					ack++
					takes(t, r, ack, text(ack))
				}
				holds(t, "all came", r, ack, from(ack-many+1, ack)...)
				for n := ack - many + 1; n <= ack; n++ {
					pops(t, r, text(n))
				}
				dry(t, r)
				deaf(t, r, ack, ack-many, ack+2)
			}
		}
	}
}

// TestSliding is P11.2 and P11.3: one popped, one heard, with each many pieces that wait, many times over.
func TestSliding(t *testing.T) {
	for room := 1; room <= 16; room++ {
		for many := 1; many <= room; many++ {
			r := heard(t, room, many, 0)
			for n := many + 1; n < 100; n++ {
				pops(t, r, text(n-many))
				takes(t, r, n, text(n))
				holds(t, "sliding", r, n, from(n-many+1, n)...)
			}
		}
	}
}

// both does a thing to a receiver and to a plain one: 0 pops, others are a number about the next one that comes.
func both(t *testing.T, r *Receiver, p *plain, thing int) {
	t.Helper()
	if thing == 0 {
		data, ok := p.pop()
		if got, gotOK := r.Pop(); got != data || gotOK != ok {
			t.Fatalf("Pop: %q %v, not %q %v", got, gotOK, data, ok)
		}
	} else {
		seq := len(p.data) + thing - 2
		data := text(seq) + ", popped " + strconv.Itoa(p.popped)
		want := p.hear(seq, data)
		if got := r.Hear(seq, data); got != want {
			t.Fatalf("Hear %d: %v, not %v (room %d, Ack %d, %d popped)", seq, got, want, p.room, len(p.data), p.popped)
		}
	}
	holds(t, "as a plain one", r, len(p.data), p.waiting()...)
}

// TestEachOrder is P11.2 and P11.3: each order of up to seven calls, with small rooms.
func TestEachOrder(t *testing.T) {
	for room := 1; room <= 4; room++ {
		var each func(r *Receiver, p *plain, more int)
		each = func(r *Receiver, p *plain, more int) {
			if more == 0 {
				return
			}
			for thing := range 5 {
				c, q := *r, p.copied()
				both(t, &c, q, thing)
				each(&c, q, more-1)
			}
		}
		each(New(room), &plain{room: room}, 7)
	}
}

// chance gives numbers that look like chance, the same ones each time.
type chance uint64

func (c *chance) below(n int) int {
	*c = *c*6364136223846793005 + 1442695040888963407
	return int(uint64(*c) >> 33 % uint64(n))
}

// TestLongOrders is P11.2 and P11.3: long orders, with each room, in which pieces wait few and many.
func TestLongOrders(t *testing.T) {
	c := chance(1)
	for room := 1; room <= 16; room++ {
		for _, eager := range []int{2, 3, 4, 8} {
			r, p := New(room), &plain{room: room}
			for range 2000 {
				thing := 3
				switch c.below(eager) {
				case 0:
					thing = 0
				case 1:
					thing = 1 + c.below(room+4)
				}
				both(t, r, p, thing)
			}
		}
	}
}

// TestWhateverComes is P11.3: numbers in any order, any of them any number of times, lost ones sent anew: what is taken is 1, 2, 3 and so on, each once, and just that is popped.
func TestWhateverComes(t *testing.T) {
	const most = 300
	c := chance(5)
	for room := 1; room <= 16; room++ {
		r := New(room)
		var taken []int
		var popped []string
		for range 200 * most { // some ten times what a receiver needs; a wrong one may never come to the end
			seq := r.Ack() + c.below(9) - 4
			if c.below(4) == 0 {
				seq = c.below(most + 1)
			}
			if seq <= most && r.Hear(seq, text(seq)) {
				taken = append(taken, seq)
			}
			if c.below(3) == 0 {
				if data, ok := r.Pop(); ok {
					popped = append(popped, data)
				}
			}
		}
		for i, seq := range taken {
			if seq != i+1 {
				t.Fatalf("room %d: %d was taken at the place %d", room, seq, i)
			}
		}
		if !slices.Equal(popped, from(1, most)) || len(taken) != most {
			t.Fatalf("room %d: %d taken, popped %.300q", room, len(taken), popped)
		}
		for seq := -5; seq <= most; seq++ {
			deaf(t, r, seq)
		}
	}
}

// TestLookIsTheCallers is P11.2 and rule 5: the list, changed by the caller, changes nothing of the receiver, nor of another list.
func TestLookIsTheCallers(t *testing.T) {
	for many := range 17 {
		for shift := range 17 {
			r := heard(t, 16, shift+many, shift)
			want := from(shift+1, shift+many)
			one, other := r.Look(), r.Look()
			for i := range one {
				one[i] = "the caller's"
			}
			one = append(one, "the caller's", "the caller's")
			for i := range one[:cap(one)] {
				one[:cap(one)][i] = "the caller's"
			}
			holds(t, "list changed", r, shift+many, want...)
			if !slices.Equal(other, want) {
				t.Fatalf("the other list: %q", other)
			}
			if many < 16 {
				takes(t, r, shift+many+1, text(shift+many+1))
				clear(one)
				holds(t, "list changed, and heard", r, shift+many+1, from(shift+1, shift+many+1)...)
			}
		}
	}
}

// TestLookStays is P11.2 and rule 5: later calls change nothing of a list, nor of the room behind it.
func TestLookStays(t *testing.T) {
	for many := range 17 {
		for shift := range 17 {
			r := heard(t, 16, shift+many, shift)
			l := r.Look()
			before := slices.Clone(l[:cap(l)])
			for range 40 {
				r.Pop()
				r.Hear(r.Ack()+1, "later")
				r.Look()
			}
			for range 17 {
				r.Pop()
			}
			for range 17 {
				r.Hear(r.Ack()+1, "later still")
			}
			if !slices.Equal(l[:cap(l)], before) || !slices.Equal(l, from(shift+1, shift+many)) {
				t.Fatalf("%d pieces behind %d: %q", many, shift, l[:cap(l)])
			}
		}
	}
}

// TestAskingChangesNothing is rule 6: Ack, Waiting and Look, asked again, answer the same, and leave the receiver as it is.
func TestAskingChangesNothing(t *testing.T) {
	for many := range 17 {
		r := heard(t, 16, many+20, 20)
		before := *r
		for range 5 {
			holds(t, "asked", r, many+20, from(21, many+20)...)
		}
		if *r != before {
			t.Fatalf("%d pieces: asked, it is changed", many)
		}
	}
}

// TestReceiversApart is P11.1 and rule 6: each New is a receiver of its own, of its own room, whatever is done to others.
func TestReceiversApart(t *testing.T) {
	one, other := New(2), New(2)
	takes(t, one, 1, "a")
	holds(t, "the other one", other, 0)
	holds(t, "one made later", New(2), 0)
	deaf(t, other, 2)
	takes(t, other, 1, "b")
	takes(t, other, 2, "c")
	holds(t, "the one", one, 1, "a")
	pops(t, one, "a")
	dry(t, one)
	holds(t, "the other one", other, 2, "b", "c")

	c := chance(7)
	var r []*Receiver
	var p []*plain
	for room := 1; room <= 16; room++ {
		r, p = append(r, New(room)), append(p, &plain{room: room})
	}
	for range 5000 {
		i := c.below(len(r))
		both(t, r[i], p[i], []int{0, 3, 3, 1 + c.below(6)}[c.below(4)])
		for j := range r {
			if r[j].Ack() != len(p[j].data) || !slices.Equal(r[j].Look(), p[j].waiting()) {
				t.Fatalf("receiver %d: %d %q", j, r[j].Ack(), r[j].Look())
			}
		}
	}
}

// TestHandedInStays is rule 5: data isn't changed, nor the room behind it, and isn't kept: changed later, it changes nothing.
func TestHandedInStays(t *testing.T) {
	room := []byte("some data, spare room")
	r := New(2)
	for range 40 {
		r.Hear(r.Ack()+1, unsafe.String(&room[0], 9))
		r.Hear(r.Ack()+1, unsafe.String(&room[0], 0))
		r.Hear(r.Ack()+7, unsafe.String(&room[0], 9))
		r.Pop()
	}
	if string(room) != "some data, spare room" {
		t.Errorf("changed: %q", room)
	}
	r = New(2)
	r.Hear(1, unsafe.String(&room[0], 9))
	r.Hear(2, unsafe.String(&room[5], 4))
	clear(room)
	holds(t, "what was handed in is changed", r, 2, "some data", "data")
	pops(t, r, "some data")
	pops(t, r, "data")
}

// TestAnswersAreNew is rule 5: the data that Look and Pop tell is in no memory of the receiver's, nor of what was handed in, nor of another answer.
func TestAnswersAreNew(t *testing.T) {
	data := strings.Clone("some data")
	r := New(2)
	r.Hear(1, data)
	seen := map[*byte]string{unsafe.StringData(data): "what was handed in"}
	apart := func(name, s string) {
		at := unsafe.StringData(s)
		if of, ok := seen[at]; ok {
			t.Errorf("%s is in the memory of %s", name, of)
		}
		seen[at] = name
	}
	apart("the first list", r.Look()[0])
	apart("the second list", r.Look()[0])
	s, _ := r.Pop()
	apart("what is popped", s)
	for _, left := range r.ring {
		if left != "" {
			t.Errorf("what is popped is kept: %q", left)
		}
	}
}

// TestRing is the chapter's section 'Ways' and the language's rule 8: pieces wait in the array alone, which holds those that wait and nothing else, and two arrays share nothing.
func TestRing(t *testing.T) {
	for room := 1; room <= 16; room++ {
		for ack := range 60 {
			for many := range min(room, ack) + 1 {
				r := heard(t, room, ack, ack-many)
				kept := []string{}
				for _, data := range r.ring {
					if data != "" {
						kept = append(kept, data)
					}
				}
				slices.Sort(kept)
				want := from(ack-many+1, ack)
				slices.Sort(want)
				if !slices.Equal(kept, want) {
					t.Fatalf("room %d, %d of %d wait: %q is kept", room, many, ack, kept)
				}
			}
		}
	}
	r := heard(t, 3, 5, 3)
	c := *r
	takes(t, &c, 6, "the other array's")
	pops(t, &c, text(4))
	holds(t, "the one", r, 5, text(4), text(5))
	holds(t, "the other one", &c, 6, text(5), "the other array's")
}
