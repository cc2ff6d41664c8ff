package bag

import (
	"math"
	"testing"

	"chapbook/api"
)

// steps are what the orders below are made of.
func steps() []func(t *testing.T, x *pair) {
	return []func(t *testing.T, x *pair){
		func(t *testing.T, x *pair) { x.add(t, text("abcdef")) },
		func(t *testing.T, x *pair) { x.add(t, text(""), numbered(len(x.p.all)), text("x")) },
		func(t *testing.T, x *pair) { x.take(t, 0) },
		func(t *testing.T, x *pair) { x.take(t, len(x.p.all)-1) },
		func(t *testing.T, x *pair) { x.take(t, 1) },
		func(t *testing.T, x *pair) { x.twice(t, 0) },
		func(t *testing.T, x *pair) { x.twice(t, len(x.p.all)-1) },
		func(t *testing.T, x *pair) { x.spoil(t, 0, 5, 0b1011) },
		func(t *testing.T, x *pair) { x.spoil(t, len(x.p.all)-1, -3, math.MaxUint32) },
		func(t *testing.T, x *pair) { x.spoil(t, 1, 0, 0) },
	}
}

// power is n to the power of m.
func power(n, m int) int {
	p := 1
	for range m {
		p *= n
	}
	return p
}

// TestAllOrders holds bags against plain ones, behind each order of up to five steps from the beginning on.
func TestAllOrders(t *testing.T) {
	all := steps()
	for length := range 6 {
		for order := range power(len(all), length) {
			x := newPair()
			for range length {
				all[order%len(all)](t, x)
				order /= len(all)
			}
			x.alike(t, "an order")
		}
	}
}

// TestAllOrdersNearlyFull: likewise of three steps, where room is little.
func TestAllOrdersNearlyFull(t *testing.T) {
	all := steps()
	base := newPair()
	base.add(t, many(0, most-2)...)
	for order := range power(len(all), 3) {
		x := newPair()
		x.b.packets = append(x.b.packets, base.b.packets...)
		x.twin.packets = append(x.twin.packets, base.twin.packets...)
		x.p.all = base.p.all
		for range 3 {
			all[order%len(all)](t, x)
			order /= len(all)
			x.one(t, len(x.p.all)-1)
		}
		x.alike(t, "an order")
	}
}

// chance gives numbers that look like chance, the same ones each time.
type chance uint64

func (c *chance) below(n int) int {
	*c = *c*6364136223846793005 + 1442695040888963407
	return int(uint64(*c) >> 33 % uint64(n))
}

// text is one of so many bytes.
func (c *chance) text(size int) string {
	b := make([]byte, size)
	for i := range b {
		b[i] = byte(c.below(256))
	}
	return string(b)
}

// mask is one of many bits, or of few.
func (c *chance) mask() uint32 {
	m := uint32(c.below(1<<16))<<16 | uint32(c.below(1<<16))
	return []uint32{m, m & (m >> 7), 1 << c.below(32), math.MaxUint32 >> c.below(32)}[c.below(4)]
}

// packet is one of any kind.
func (c *chance) packet() api.Packet {
	return api.Packet{From: c.below(5) - 1, To: c.below(5) - 1, Bytes: c.text(c.below(12))}
}

// somewhere is a place, mostly one of a packet.
func (x *pair) somewhere(c *chance) int {
	if c.below(8) == 0 {
		return []int{-1, len(x.p.all), len(x.p.all) + 3, math.MinInt, math.MaxInt}[c.below(5)]
	}
	return c.below(len(x.p.all) + 1)
}

// somehow does one call, of any kind; it takes more often than it adds where grow is false.
func (x *pair) somehow(t *testing.T, c *chance, grow bool) {
	t.Helper()
	kind := c.below(10)
	if kind > 5 && grow {
		kind = c.below(4)
	}
	switch kind {
	case 0:
		l := make([]api.Packet, c.below(5))
		for i := range l {
			l[i] = c.packet()
		}
		x.add(t, l...)
	case 1, 2:
		x.twice(t, x.somewhere(c))
	case 3, 4:
		x.spoil(t, x.somewhere(c), c.below(130)-40, c.mask())
	case 5:
		x.one(t, x.somewhere(c))
	default:
		x.take(t, x.somewhere(c))
	}
}

// TestLongOrders: it grows and shrinks by turns.
func TestLongOrders(t *testing.T) {
	for seed := range 10 {
		c := chance(seed)
		x := newPair()
		for i := range 4000 {
			x.somehow(t, &c, i/200%2 == 0)
			x.one(t, x.somewhere(&c))
			if i%50 == 0 {
				x.alike(t, "a long order")
			}
		}
		x.alike(t, "a long order")
	}
}

// TestLongOrdersNearlyFull: about the bound.
func TestLongOrdersNearlyFull(t *testing.T) {
	c := chance(99)
	x := newPair()
	x.add(t, many(0, most-10)...)
	full := 0
	for i := range 2000 {
		x.somehow(t, &c, i/100%2 == 0)
		x.one(t, x.somewhere(&c))
		if len(x.p.all) == most {
			full++
		}
		if i%100 == 0 {
			x.alike(t, "about the bound")
		}
	}
	if full < 100 || full > 1900 {
		t.Errorf("full behind %d of 2000 calls", full)
	}
	x.alike(t, "about the bound")
}
