package bag

import (
	"math/big"
	"slices"
	"strings"
	"testing"

	"chapbook/api"
)

const most = 4096 // packets

// sent is a packet of the plain bag: as it was added, and by what it was spoilt, if it was.
type sent struct {
	added  api.Packet
	spoilt bool
	bit    int
	mask   uint32
}

// bits: a text as one number, the lowest bit of its first byte the lowest one.
func bits(text string) *big.Int {
	b := []byte(text)
	slices.Reverse(b)
	return new(big.Int).SetBytes(b)
}

// textOf: the text of so many bytes that a number is.
func textOf(n *big.Int, size int) string {
	b := n.FillBytes(make([]byte, size))
	slices.Reverse(b)
	return string(b)
}

// masked: the number that a mask is from a bit on, within so many bits.
func masked(bit int, mask uint32, within int) *big.Int {
	n := new(big.Int).SetUint64(uint64(mask))
	switch {
	case bit >= within || bit <= -32:
		return new(big.Int)
	case bit < 0:
		n.Rsh(n, uint(-bit))
	default:
		n.Lsh(n, uint(bit))
	}
	all := new(big.Int).Lsh(big.NewInt(1), uint(within))
	return n.And(n, all.Sub(all, big.NewInt(1)))
}

// told: the packet as it is now.
func (s sent) told() api.Packet {
	p := s.added
	if s.spoilt {
		size := len(p.Bytes)
		p.Bytes = textOf(new(big.Int).Xor(bits(p.Bytes), masked(s.bit, s.mask, 8*size)), size)
	}
	return p
}

// plain is a bag by the tests' own means: each call makes a new list.
type plain struct {
	all []sent
}

func (p *plain) add(l ...api.Packet) int {
	n := 0
	for _, x := range l {
		if len(p.all) < most {
			p.all = append(slices.Clone(p.all), sent{added: x})
			n++
		}
	}
	return n
}

func (p *plain) at(i int) (api.Packet, bool) {
	for place, s := range p.all {
		if place == i {
			return s.told(), true
		}
	}
	return api.Packet{}, false
}

func (p *plain) take(i int) (api.Packet, bool) {
	told, ok := p.at(i)
	var left []sent
	for place, s := range p.all {
		if place != i {
			left = append(left, s)
		}
	}
	p.all = left
	return told, ok
}

func (p *plain) twice(i int) api.Errno {
	if _, ok := p.at(i); !ok {
		return api.ErrNone
	}
	if len(p.all) == most {
		return api.ErrFull
	}
	p.all = append(slices.Clone(p.all), p.all[i])
	return api.OK
}

func (p *plain) spoil(i, bit int, mask uint32) api.Errno {
	if _, ok := p.at(i); !ok {
		return api.ErrNone
	}
	if p.all[i].spoilt {
		return api.ErrTwice
	}
	p.all = slices.Clone(p.all)
	p.all[i].spoilt, p.all[i].bit, p.all[i].mask = true, bit, mask
	return api.OK
}

// pair is a bag, a twin of it that never hears a call that the plain one refuses, and the plain one.
type pair struct {
	b, twin *Bag
	p       *plain
}

func newPair() *pair { return &pair{New(), New(), &plain{}} }

func (x *pair) add(t *testing.T, l ...api.Packet) {
	t.Helper()
	want := x.p.add(l...)
	if got := x.b.Add(l...); got != want {
		t.Fatalf("Add of %d: %d, not %d", len(l), got, want)
	}
	for _, p := range l[:want] { // one by one, just those that have room
		x.twin.Add(p)
	}
}

func (x *pair) take(t *testing.T, i int) {
	t.Helper()
	want, wantOk := x.p.take(i)
	if got, ok := x.b.Take(i); got != want || ok != wantOk {
		t.Fatalf("Take %d: %.200v %t, not %.200v %t", i, got, ok, want, wantOk)
	}
	if wantOk {
		x.twin.Take(i)
	}
}

func (x *pair) twice(t *testing.T, i int) {
	t.Helper()
	want := x.p.twice(i)
	if e := x.b.Twice(i); e != want {
		t.Fatalf("Twice %d: %d, not %d", i, e, want)
	}
	if want == api.OK {
		x.twin.Twice(i)
	}
}

func (x *pair) spoil(t *testing.T, i, bit int, mask uint32) {
	t.Helper()
	want := x.p.spoil(i, bit, mask)
	if e := x.b.Spoil(i, bit, mask); e != want {
		t.Fatalf("Spoil %d %d %x: %d, not %d", i, bit, mask, e, want)
	}
	if want == api.OK {
		x.twin.Spoil(i, bit, mask)
	}
}

// one looks what Len, and At of a place, tell.
func (x *pair) one(t *testing.T, i int) {
	t.Helper()
	if n := x.b.Len(); n != len(x.p.all) {
		t.Fatalf("Len: %d, not %d", n, len(x.p.all))
	}
	want, wantOk := x.p.at(i)
	if got, ok := x.b.At(i); got != want || ok != wantOk {
		t.Fatalf("At %d: %.200v %t, not %.200v %t", i, got, ok, want, wantOk)
	}
}

// alike looks whether the bag holds what the plain one does, and the twin just the same.
func (x *pair) alike(t *testing.T, name string) {
	t.Helper()
	want := make([]api.Packet, len(x.p.all))
	for i, s := range x.p.all {
		want[i] = s.told()
	}
	holds(t, name, x.b, want...)
	holds(t, name+", the twin", x.twin, want...)
	for i, s := range x.p.all {
		if x.b.packets[i].spoilt != s.spoilt {
			t.Fatalf("%s: is the packet %d spoilt? %t", name, i, !s.spoilt)
		}
	}
	if !slices.Equal(x.b.packets, x.twin.packets) {
		t.Fatalf("%s: the bag isn't as its twin", name)
	}
}

// holds looks whether a bag has just these packets.
func holds(t *testing.T, name string, b *Bag, want ...api.Packet) {
	t.Helper()
	if n := b.Len(); n != len(want) {
		t.Fatalf("%s: Len %d, not %d", name, n, len(want))
	}
	for i := -2; i <= len(want)+1; i++ {
		p, ok := b.At(i)
		if i < 0 || i >= len(want) {
			if p != (api.Packet{}) || ok {
				t.Fatalf("%s: At %d: %.200v %t, of %d", name, i, p, ok, len(want))
			}
		} else if p != want[i] || !ok {
			t.Fatalf("%s: At %d: %.200v %t, not %.200v", name, i, p, ok, want[i])
		}
	}
}

// look: all that a bag tells.
func look(b *Bag) []api.Packet {
	var l []api.Packet
	for i := range b.Len() {
		p, _ := b.At(i)
		l = append(l, p)
	}
	return l
}

// unchanged looks whether a call leaves the bag as it was, what it tells and what it has.
func unchanged(t *testing.T, name string, b *Bag, call func()) {
	t.Helper()
	before, inside := look(b), slices.Clone(b.packets)
	call()
	holds(t, name, b, before...)
	if !slices.Equal(b.packets, inside) {
		t.Fatalf("%s: it has changed the bag", name)
	}
}

// filled is a bag with so many packets, each other than the others.
func filled(n int) *Bag {
	b := New()
	b.Add(many(0, n)...)
	return b
}

// many is so many packets, each other than the others, from a number on.
func many(first, n int) []api.Packet {
	l := make([]api.Packet, n)
	for i := range l {
		l[i] = numbered(first + i)
	}
	return l
}

// numbered is the packet that the tests have at a number.
func numbered(n int) api.Packet {
	return api.Packet{From: n, To: -n, Bytes: strings.Repeat(string(rune('a'+n%26)), n%7) + string([]byte{byte(n), byte(n >> 8)})}
}

// text is a packet with these bytes.
func text(s string) api.Packet { return api.Packet{From: 1, To: 2, Bytes: s} }

// spoils looks what a Spoil answers.
func spoils(t *testing.T, b *Bag, i, bit int, mask uint32, want api.Errno) {
	t.Helper()
	if e := b.Spoil(i, bit, mask); e != want {
		t.Fatalf("Spoil %d %d %x: %d, not %d", i, bit, mask, e, want)
	}
}

// doubles looks what a Twice answers.
func doubles(t *testing.T, b *Bag, i int, want api.Errno) {
	t.Helper()
	if e := b.Twice(i); e != want {
		t.Fatalf("Twice %d: %d, not %d", i, e, want)
	}
}

// takes looks whether a Take answers that packet.
func takes(t *testing.T, b *Bag, i int, want api.Packet) {
	t.Helper()
	if p, ok := b.Take(i); p != want || !ok {
		t.Fatalf("Take %d: %.200v %t, not %.200v", i, p, ok, want)
	}
}

// adds looks how many packets an Add answers.
func adds(t *testing.T, b *Bag, want int, l ...api.Packet) {
	t.Helper()
	if n := b.Add(l...); n != want {
		t.Fatalf("Add of %d: %d, not %d", len(l), n, want)
	}
}
