package bag

import (
	"math"
	"slices"
	"strconv"
	"strings"
	"testing"
	"unsafe"

	"chapbook/api"
)

// P19.1: New, Add, Len, At and Take.

func TestNewIsNothing(t *testing.T) {
	b := New()
	holds(t, "New", b)
	refusesAll(t, b, places(0)...)
}

// TestExample is the document's own.
func TestExample(t *testing.T) {
	p, q := api.Packet{From: 1, Bytes: "p"}, api.Packet{To: 1, Bytes: "q"}
	b := New()
	adds(t, b, 2, p, q)
	doubles(t, b, 0, api.OK)
	takes(t, b, 1, q)
	holds(t, "the example", b, p, p)
}

func TestAddStandsBehind(t *testing.T) {
	b := New()
	adds(t, b, 1, numbered(0))
	holds(t, "one", b, numbered(0))
	adds(t, b, 5, many(1, 5)...)
	holds(t, "six", b, many(0, 6)...)
	adds(t, b, 1, numbered(6))
	holds(t, "seven", b, many(0, 7)...)
	adds(t, b, 1000, many(7, 1000)...)
	holds(t, "a thousand more", b, many(0, 1007)...)
}

func TestAddOfNone(t *testing.T) {
	for _, n := range []int{0, 3, most} {
		b := filled(n)
		unchanged(t, "Add of none", b, func() {
			adds(t, b, 0)
			adds(t, b, 0, nil...)
			adds(t, b, 0, []api.Packet{}...)
			adds(t, b, 0, many(0, 3)[:0]...)
		})
	}
}

// TestAddIntoLittleRoom: of a list just its first packets may have room, or none.
func TestAddIntoLittleRoom(t *testing.T) {
	for have := most - 3; have <= most; have++ {
		for n := range 5 {
			b := filled(have)
			want := min(n, most-have)
			adds(t, b, want, many(have, n)...)
			holds(t, "into little room", b, many(0, have+want)...)
		}
	}
	b := New()
	adds(t, b, most, many(0, most+1)...)
	holds(t, "of more than all", b, many(0, most)...)
	adds(t, b, 0, many(0, most+1)...)
	holds(t, "into none", b, many(0, most)...)
}

// TestRoomComesBack: what is taken makes room.
func TestRoomComesBack(t *testing.T) {
	b := filled(most)
	takes(t, b, 7, numbered(7))
	adds(t, b, 1, numbered(most), numbered(most+1))
	want := append(slices.Delete(many(0, most), 7, 8), numbered(most))
	holds(t, "behind a Take", b, want...)
	adds(t, b, 0, numbered(0))
	takes(t, b, most-1, numbered(most))
	doubles(t, b, 0, api.OK)
	want[most-1] = numbered(0)
	holds(t, "behind a Twice", b, want...)
}

func TestTakeKeepsTheOrder(t *testing.T) {
	for n := 1; n <= 5; n++ {
		for i := range n {
			b := filled(n)
			takes(t, b, i, numbered(i))
			holds(t, "behind a Take", b, slices.Delete(many(0, n), i, i+1)...)
		}
	}
	b := filled(5)
	for i, place := range []int{2, 3, 0, 1, 0} { // the middle, the last, the first, the last, the only one
		takes(t, b, place, numbered([]int{2, 4, 0, 3, 1}[i]))
	}
	holds(t, "behind all", b)
	adds(t, b, 1, numbered(9))
	holds(t, "and one more", b, numbered(9))
}

func TestPlacesOfNone(t *testing.T) {
	for _, n := range []int{0, 1, 2, 5, most - 1, most} {
		refusesAll(t, filled(n), places(n)...)
	}
}

// places are such where there is no packet of so many.
func places(n int) []int {
	return []int{math.MinInt, math.MinInt + 1, -1 << 32, -n - 1, -1, n, n + 1, n + most, most, most + 1, 1 << 32, math.MaxInt - 1, math.MaxInt}
}

// refusesAll looks whether a place where there is no packet is none to each call.
func refusesAll(t *testing.T, b *Bag, places ...int) {
	t.Helper()
	for _, i := range places {
		unchanged(t, "place "+strconv.Itoa(i), b, func() {
			for name, call := range map[string]func(int) (api.Packet, bool){"At": b.At, "Take": b.Take} {
				if p, ok := call(i); p != (api.Packet{}) || ok {
					t.Fatalf("%s %d of %d: %.200v %t", name, i, b.Len(), p, ok)
				}
			}
			doubles(t, b, i, api.ErrNone)
			spoils(t, b, i, 0, 1, api.ErrNone)
			spoils(t, b, i, -1, 0, api.ErrNone)
		})
	}
}

// TestPacketsOfAnyKind: a bag carries what it is given, nodes that there are none of too.
func TestPacketsOfAnyKind(t *testing.T) {
	l := []api.Packet{
		{}, {From: math.MinInt, To: math.MaxInt}, {From: -1, To: 65, Bytes: "\x00"}, {Bytes: "\xff\xfe\x00 text"},
		text(strings.Repeat("x", api.MaxMTU)), text(strings.Repeat("\xff", api.MaxMTU+1)), text("a"), text("a"), text(strings.Repeat("long", 1<<18)),
	}
	b := New()
	adds(t, b, len(l), l...)
	holds(t, "of any kind", b, l...)
	for i := range l {
		doubles(t, b, i, api.OK)
	}
	holds(t, "doubled", b, slices.Concat(l, l)...)
	for _, p := range l {
		takes(t, b, 0, p)
	}
	holds(t, "left", b, l...)
}

// TestAlike: of two that are alike just the one at the place is meant.
func TestAlike(t *testing.T) {
	p, q := text("alike"), text("other")
	b := New()
	adds(t, b, 4, p, q, p, p)
	spoils(t, b, 2, 0, 1, api.OK)
	holds(t, "one spoilt", b, p, q, text("`like"), p)
	takes(t, b, 0, p)
	holds(t, "one taken", b, q, text("`like"), p)
	spoils(t, b, 2, 1, 1, api.OK)
	holds(t, "the other one spoilt", b, q, text("`like"), text("clike"))
}

// P19.2: Twice and Spoil.

func TestTwiceStandsBehind(t *testing.T) {
	b := filled(3)
	want := many(0, 3)
	for _, i := range []int{1, 0, 2, 3, 6} { // the last ones are themselves such as were doubled
		doubles(t, b, i, api.OK)
		want = append(want, want[i])
		holds(t, "behind a Twice", b, want...)
	}
	one := filled(1)
	doubles(t, one, 0, api.OK)
	holds(t, "the only one", one, numbered(0), numbered(0))
}

func TestTwiceIntoNoRoom(t *testing.T) {
	b := filled(most - 1)
	doubles(t, b, most-1, api.ErrNone)
	doubles(t, b, most-2, api.OK)
	want := append(many(0, most-1), numbered(most-2))
	holds(t, "the last one that has room", b, want...)
	spoils(t, b, 5, 0, 1, api.OK)
	unchanged(t, "Twice of a full bag", b, func() {
		for _, i := range []int{0, 1, 5, most / 2, most - 2, most - 1} {
			doubles(t, b, i, api.ErrFull)
		}
		for _, i := range places(most) {
			doubles(t, b, i, api.ErrNone)
		}
	})
}

// TestSpoilChangesBits has its answers written out, so that it doesn't hang on the plain bag.
func TestSpoilChangesBits(t *testing.T) {
	for _, x := range []struct {
		bytes string
		bit   int
		mask  uint32
		want  string
	}{
		{"\x00\x00\x00", 0, 1, "\x01\x00\x00"},
		{"\x00\x00\x00", 7, 1, "\x80\x00\x00"},
		{"\x00\x00\x00", 8, 1, "\x00\x01\x00"},
		{"\x00\x00\x00", 23, 1, "\x00\x00\x80"},
		{"\x00\x00\x00", 24, 1, "\x00\x00\x00"},
		{"\x00\x00\x00", 6, 0b1011, "\xc0\x02\x00"},
		{"\x00\x00\x00", -2, 0b111, "\x01\x00\x00"},
		{"\xff\xff\xff", 6, 0b1011, "\x3f\xfd\xff"},
		{"\xff\xff\xff", 0, math.MaxUint32, "\x00\x00\x00"},
		{"\x00\x00\x00\x00\x00\x00", 8, math.MaxUint32, "\x00\xff\xff\xff\xff\x00"},
		{"\x00\x00\x00\x00\x00\x00", 4, math.MaxUint32, "\xf0\xff\xff\xff\x0f\x00"},
		{"\x00\x00\x00\x00\x00\x00", 8, 0x80000001, "\x00\x01\x00\x00\x80\x00"},
		{"\x00\x00\x00\x00", 0, 1 << 31, "\x00\x00\x00\x80"},
		{"\x00\x00\x00\x00", 1, 1 << 31, "\x00\x00\x00\x00"},
		{"\x00\x00\x00\x00", -31, 1 << 31, "\x01\x00\x00\x00"},
		{"\x00\x00\x00\x00", -32, math.MaxUint32, "\x00\x00\x00\x00"},
		{"\x00\x00\x00\x00", -1, math.MaxUint32, "\xff\xff\xff\x7f"},
		{"\x00\x00\x00\x00", 31, math.MaxUint32, "\x00\x00\x00\x80"},
		{"\x12\x34\x56\x78", 0, 0x78563412, "\x00\x00\x00\x00"},
		{"\x12\x34\x56\x78", 16, 0x12345678, "\x12\x34\x2e\x2e"},
		{"chapbook", 3, 0, "chapbook"},
		{"c", 2, 0b1000_0001, "g"},
		{"", 0, math.MaxUint32, ""},
	} {
		b := New()
		adds(t, b, 1, api.Packet{From: -7, To: 1 << 40, Bytes: x.bytes})
		spoils(t, b, 0, x.bit, x.mask, api.OK)
		holds(t, "Spoil of "+strconv.Quote(x.bytes), b, api.Packet{From: -7, To: 1 << 40, Bytes: x.want})
		unchanged(t, "spoilt already", b, func() { spoils(t, b, 0, x.bit, x.mask, api.ErrTwice) })
	}
}

// aboutEnds are bits about the ends of so many bytes, and far from them.
func aboutEnds(size int) []int {
	last := 8*size - 1
	return []int{
		0, 1, 7, 8, 9, 15, 16, 31, 32, 33, last - 32, last - 31, last - 8, last - 7, last - 1, last, last + 1, last + 2, last + 31, last + 32, last + 33,
		-1, -2, -7, -8, -9, -30, -31, -32, -33, -64,
		1 << 31, 1 << 32, 1<<62 - 1, 1 << 62, -1 << 31, -1 << 32, -1 << 62, math.MinInt, math.MinInt + 1, math.MinInt + 31, math.MinInt + 32, math.MaxInt - 32, math.MaxInt - 31, math.MaxInt - 1, math.MaxInt,
	}
}

// TestSpoilAboutEnds: each size of the packet, bit and mask that stands at an edge.
func TestSpoilAboutEnds(t *testing.T) {
	for _, size := range []int{0, 1, 2, 3, 4, 5, 8, 63, api.MaxMTU} {
		var b strings.Builder
		for i := range size {
			b.WriteByte(byte(i*37 + 11))
		}
		p := api.Packet{From: 3, To: 0, Bytes: b.String()}
		for _, bit := range aboutEnds(size) {
			for _, mask := range []uint32{0, 1, 2, 1 << 31, 1 << 30, math.MaxUint32, 0xaaaaaaaa, 0x55555555, 0xffff0000, 0x0000ffff, 0x80000001, 0x12345678} {
				x := newPair()
				x.add(t, numbered(1), p, numbered(2))
				x.spoil(t, 1, bit, mask)
				x.alike(t, "Spoil at "+strconv.Itoa(bit))
				x.spoil(t, 1, bit, mask)
				x.spoil(t, 1, 0, 1)
				x.alike(t, "Spoil again at "+strconv.Itoa(bit))
			}
		}
	}
}

// TestSpoiltByNothing: what changed no bit is spoilt, too.
func TestSpoiltByNothing(t *testing.T) {
	for _, x := range []struct {
		bytes string
		bit   int
		mask  uint32
	}{{"text", 0, 0}, {"text", 32, 1}, {"text", -32, math.MaxUint32}, {"text", -1, 1}, {"text", math.MaxInt, math.MaxUint32}, {"text", math.MinInt, math.MaxUint32}, {"", 0, 1}, {"", 0, 0}, {"", -5, math.MaxUint32}} {
		b := New()
		adds(t, b, 2, text(x.bytes), text(x.bytes))
		spoils(t, b, 0, x.bit, x.mask, api.OK)
		holds(t, "spoilt by nothing", b, text(x.bytes), text(x.bytes))
		unchanged(t, "spoilt by nothing", b, func() {
			spoils(t, b, 0, 0, 1, api.ErrTwice)
			spoils(t, b, 0, x.bit, x.mask, api.ErrTwice)
			spoils(t, b, 2, x.bit, x.mask, api.ErrNone)
		})
		doubles(t, b, 0, api.OK)
		spoils(t, b, 2, 0, 1, api.ErrTwice)
		spoils(t, b, 1, x.bit, x.mask, api.OK)
	}
}

// TestDoubledAheadOfASpoil: each of the two is one by itself.
func TestDoubledAheadOfASpoil(t *testing.T) {
	b := New()
	adds(t, b, 1, text("aaaa"))
	doubles(t, b, 0, api.OK)
	spoils(t, b, 0, 0, 3, api.OK)
	holds(t, "the first one spoilt", b, text("baaa"), text("aaaa"))
	spoils(t, b, 1, 8, 3, api.OK)
	holds(t, "both spoilt", b, text("baaa"), text("abaa"))

	b = New()
	adds(t, b, 1, text("aaaa"))
	doubles(t, b, 0, api.OK)
	spoils(t, b, 1, 0, 3, api.OK)
	holds(t, "the second one spoilt", b, text("aaaa"), text("baaa"))
	unchanged(t, "it can't be again", b, func() { spoils(t, b, 1, 8, 3, api.ErrTwice) })
	spoils(t, b, 0, 8, 3, api.OK)
	holds(t, "the first one, too", b, text("abaa"), text("baaa"))
}

// TestDoubledBehindASpoil: both are spoilt.
func TestDoubledBehindASpoil(t *testing.T) {
	b := New()
	adds(t, b, 2, text("aaaa"), text("bbbb"))
	spoils(t, b, 0, 0, 3, api.OK)
	doubles(t, b, 0, api.OK)
	doubles(t, b, 2, api.OK)
	holds(t, "doubled twice", b, text("baaa"), text("bbbb"), text("baaa"), text("baaa"))
	unchanged(t, "all of them are spoilt", b, func() {
		for _, i := range []int{0, 2, 3} {
			spoils(t, b, i, 0, 3, api.ErrTwice)
		}
	})
	takes(t, b, 0, text("baaa"))
	unchanged(t, "without the first one", b, func() { spoils(t, b, 1, 8, 1, api.ErrTwice) })
	spoils(t, b, 0, 0, 3, api.OK)
	holds(t, "the other one", b, text("abbb"), text("baaa"), text("baaa"))
}

// TestSpoiltStaysSo: whether a packet is spoilt goes with it, not with its place.
func TestSpoiltStaysSo(t *testing.T) {
	b := filled(6)
	spoilt := func(n int) api.Packet {
		p := numbered(n)
		return api.Packet{From: p.From, To: p.To, Bytes: string(p.Bytes[0]^1) + p.Bytes[1:]}
	}
	spoils(t, b, 2, 0, 1, api.OK)
	spoils(t, b, 4, 0, 1, api.OK)
	takes(t, b, 1, numbered(1))
	takes(t, b, 4, numbered(5))
	holds(t, "others taken", b, numbered(0), spoilt(2), numbered(3), spoilt(4))
	unchanged(t, "spoilt still", b, func() {
		spoils(t, b, 1, 0, 1, api.ErrTwice)
		spoils(t, b, 3, 0, 1, api.ErrTwice)
	})
	spoils(t, b, 2, 0, 1, api.OK)
	takes(t, b, 3, spoilt(4))
	adds(t, b, 1, numbered(5))
	holds(t, "another one at its place", b, numbered(0), spoilt(2), spoilt(3), numbered(5))
	spoils(t, b, 3, 0, 1, api.OK)
	for range 4 {
		b.Take(0)
	}
	adds(t, b, 4, many(0, 4)...)
	for i := range 4 {
		spoils(t, b, i, 0, 1, api.OK)
	}
	holds(t, "all anew", b, spoilt(0), spoilt(1), spoilt(2), spoilt(3))
}

// TestTakenAndAddedAgain: it isn't the packet that was spoilt any more.
func TestTakenAndAddedAgain(t *testing.T) {
	b := New()
	adds(t, b, 1, text("a"))
	spoils(t, b, 0, 0, 2, api.OK)
	p, _ := b.Take(0)
	adds(t, b, 1, p)
	spoils(t, b, 0, 0, 2, api.OK)
	holds(t, "spoilt back", b, text("a"))
}

// P19.3: what isn't spoilt is as it was added; what is, differs within 32 bits on end.

func TestWithin32Bits(t *testing.T) {
	c := chance(19)
	for range 20000 {
		size := c.below(20)
		was := c.text(size)
		bit := c.below(8*size+80) - 40
		b := New()
		adds(t, b, 2, text(was), text(was))
		spoils(t, b, 1, bit, c.mask(), api.OK)
		spoils(t, b, 1, c.below(8*size+1), c.mask(), api.ErrTwice)
		holds(t, "what isn't spoilt", b, text(was), look(b)[1])
		is, _ := b.At(1)
		if len(is.Bytes) != size || is.From != 1 || is.To != 2 {
			t.Fatalf("of %q: %v", was, is)
		}
		for at := range 8 * size {
			if (was[at/8]^is.Bytes[at/8])>>(at%8)&1 == 1 && (at < bit || at >= bit+32) {
				t.Fatalf("Spoil of %q at %d: %q, where the bit %d is another one", was, bit, is.Bytes, at)
			}
		}
	}
}

// The rules that hold everywhere.

// TestHandedInStaysAndIsNotKept: the list, its spare room and its texts.
func TestHandedInStaysAndIsNotKept(t *testing.T) {
	b := New()
	bytes := []byte("text")
	list := []api.Packet{text("a"), {From: 3, To: 4, Bytes: unsafe.String(&bytes[0], len(bytes))}, text("spare")}
	was := slices.Clone(list)
	adds(t, b, 2, list[:2]...)
	spoils(t, b, 0, 0, 1, api.OK)
	doubles(t, b, 1, api.OK)
	takes(t, b, 0, text("`"))
	if !slices.Equal(list, was) {
		t.Errorf("the list is %v", list)
	}
	want := api.Packet{From: 3, To: 4, Bytes: "text"}
	clear(list)
	clear(bytes)
	holds(t, "written over", b, want, want)
	doubles(t, b, 0, api.OK)
	takes(t, b, 1, want)
	holds(t, "written over, later", b, want, want)

	full := filled(most - 1)
	list = []api.Packet{text("a"), text("b"), text("c")}
	was = slices.Clone(list)
	adds(t, full, 1, list...)
	if !slices.Equal(list, was) {
		t.Errorf("the list of which just one had room is %v", list)
	}
}

// TestAnswersAreNew: written over, they change nothing of what is told later.
func TestAnswersAreNew(t *testing.T) {
	b := New()
	long := strings.Repeat("text", 100)
	adds(t, b, 2, text(long), text(long))
	doubles(t, b, 0, api.OK)
	spoils(t, b, 1, 0, 0, api.OK)
	doubles(t, b, 1, api.OK)
	seen := map[*byte]bool{unsafe.StringData(long): true}
	answer := func(name string, p api.Packet, _ bool) {
		if p.Bytes != long {
			t.Fatalf("%s: %q", name, p.Bytes)
		}
		first := unsafe.StringData(p.Bytes)
		if seen[first] {
			t.Fatalf("%s: the text is told from elsewhere", name)
		}
		seen[first] = true
		clear(unsafe.Slice(first, len(long)))
	}
	for i := range 4 {
		p, ok := b.At(i)
		answer("At", p, ok)
		p, ok = b.At(i)
		answer("At again", p, ok)
	}
	for range 4 {
		p, ok := b.Take(0)
		answer("Take", p, ok)
	}
}

// TestTwoBags show nothing of each other.
func TestTwoBags(t *testing.T) {
	a, b := New(), New()
	list := many(0, 3)
	adds(t, a, 3, list...)
	holds(t, "the other one", b)
	adds(t, b, 3, list...)
	spoils(t, a, 1, 0, 1, api.OK)
	doubles(t, a, 2, api.OK)
	takes(t, a, 0, numbered(0))
	holds(t, "the other one still", b, list...)
	spoils(t, b, 1, 0, 1, api.OK)
	b.Add(many(0, most)...)
	adds(t, a, 1, numbered(5))
	doubles(t, b, 0, api.ErrFull)
	doubles(t, a, 0, api.OK)
	if a.Len() != 5 || b.Len() != most {
		t.Errorf("Len: %d and %d", a.Len(), b.Len())
	}
}

// TestFalseIsZero: nothing stands beside a false, also where packets were ahead of it.
func TestFalseIsZero(t *testing.T) {
	b := filled(2)
	takes(t, b, 1, numbered(1))
	refusesAll(t, b, 1, 2)
	takes(t, b, 0, numbered(0))
	refusesAll(t, b, 0, 1)
}
