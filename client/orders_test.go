package client

import (
	"slices"
	"testing"

	"chapbook/api"
)

// steps are what the orders below are made of.
func steps() []func(t *testing.T, x *pair) {
	return []func(t *testing.T, x *pair){
		func(t *testing.T, x *pair) { x.update(t, app("t", "o")) },
		func(t *testing.T, x *pair) { x.update(t, add("a", 1)) },
		func(t *testing.T, x *pair) { x.push(t) },
		func(t *testing.T, x *pair) { x.take(t, x.next()) },
		func(t *testing.T, x *pair) { x.take(t, of(1, 2, app("t", "k"), add("a", 10))) },
		func(t *testing.T, x *pair) { x.take(t, of(2, 2, set("a", 5))) }, // its own: too early, the next one with other updates, or too late
		func(t *testing.T, x *pair) { x.resume() },
	}
}

// next is its first pending round; or, with none pending, the one that would be next.
func (x *pair) next() api.Round {
	if len(x.p.pending) == 0 {
		return of(x.p.origin, len(x.p.journal)+1, app("t", "x"))
	}
	return x.p.pending[0]
}

// power is n to the power of m.
func power(n, m int) int {
	p := 1
	for range m {
		p *= n
	}
	return p
}

// TestAllOrders holds clients against plain ones, behind each order of up to five calls, good and bad.
func TestAllOrders(t *testing.T) {
	all := steps()
	for _, c := range []config{
		{origin: 2, mtu: 64, push: 1, last: 9},
		{origin: 2, mtu: 64, push: 2, last: 1},
		{origin: 2, mtu: 1400, push: 1, last: 3, ahead: 2},
	} {
		for length := range 6 {
			for order := range power(len(all), length) {
				x := begun(t, c)
				for range length {
					all[order%len(all)](t, x)
					order /= len(all)
				}
				x.unchanged(t, "an order")
			}
		}
	}
}

// dice tells numbers, other ones for each seed.
type dice uint32

func (d *dice) under(n int) int {
	*d = *d*1664525 + 1013904223
	return int(*d>>8) % n
}

// TestLongOrders holds clients against plain ones, over long orders of all the calls, good and bad, and looks at all that stands behind each.
func TestLongOrders(t *testing.T) {
	bad, good := badUpdates(), goodUpdates()
	for seed := range 60 {
		d := dice(seed)
		c := config{origin: 2, mtu: []int{64, 80, 200, 1400}[seed%4], push: d.under(20) - 1, last: 5 + d.under(60), ahead: d.under(5)}
		x := begun(t, c)
		foreign := others()
		for range 250 {
			switch d.under(12) {
			case 0:
				b := bad[d.under(len(bad))]
				x.update(t, b.u)
			case 1, 2, 3:
				x.update(t, good[d.under(len(good))])
			case 4:
				x.update(t, list(d.under(200))[0])
			case 5, 6:
				x.push(t)
			case 7, 8:
				x.take(t, x.next())
			case 9:
				x.take(t, of(2, d.under(len(x.p.journal)+3), good[d.under(len(good))]))
			case 10:
				x.take(t, foreign[d.under(len(foreign))])
			case 11:
				if d.under(6) == 0 {
					x.resume()
				}
			}
			x.holds(t, "a long order")
		}
		x.unchanged(t, "a long order")
	}
}

// world is clients of the origins 1, 2 and so on, and one common order, to which what they pushed comes in the order of their pushing.
type world struct {
	clients []*pair
	common  []api.Round
	came    []int // how many of each one's rounds are common
	at      []int // how many of the common ones each one took
}

// commit: the first round of a client's that isn't common comes to be.
func (w *world) commit(i int) {
	if j := w.clients[i].p.journal; w.came[i] < len(j) {
		w.common = append(w.common, j[w.came[i]])
		w.came[i]++
	}
}

// pull: a client takes the next common round.
func (w *world) pull(t *testing.T, i int) {
	t.Helper()
	if w.at[i] < len(w.common) {
		w.clients[i].takes(t, w.common[w.at[i]])
		w.at[i]++
	}
}

// TestOneCommonOrder: clients that take one common order know beginnings of it, with their own rounds each once, wherever they fail; at the end all read the same, and all is confirmed.
func TestOneCommonOrder(t *testing.T) {
	for seed := range 12 {
		d := dice(seed)
		w := &world{came: make([]int, 4), at: make([]int, 4)}
		for origin := 1; origin <= 4; origin++ {
			w.clients = append(w.clients, begun(t, config{origin: origin, mtu: 100 * origin, push: origin, last: maxLast}))
		}
		for range 500 {
			i := d.under(4)
			x := w.clients[i]
			switch d.under(8) {
			case 0, 1:
				x.update(t, app("t", string(rune('a'+d.under(26)))))
				x.update(t, add("a", int64(d.under(100))))
			case 2, 3:
				x.push(t)
			case 4:
				w.commit(i)
			case 5, 6:
				w.pull(t, i)
			case 7:
				if d.under(8) == 0 {
					x.resumes(t)
					w.at[i] = 0
				}
			}
			tells(t, "Known", x.c.Known(), w.common[:w.at[i]])
		}
		w.ends(t)
	}
}

// spread: all that was pushed comes to be common, and known by all.
func (w *world) spread(t *testing.T) {
	t.Helper()
	for i, x := range w.clients {
		for range x.p.journal {
			w.commit(i)
		}
	}
	for i := range w.clients {
		for range w.common {
			w.pull(t, i)
		}
	}
}

// ends looks whether all comes to be pushed, known and read alike by all.
func (w *world) ends(t *testing.T) {
	t.Helper()
	w.spread(t)
	for _, x := range w.clients {
		x.push(t) // what is open, if something is
	}
	w.spread(t)
	for i, x := range w.clients {
		tells(t, "Known", x.c.Known(), w.common)
		if !x.c.Confirmed() || !slices.Equal(shown(x.c), shown(w.clients[0].c)) {
			t.Fatalf("client %d: %+v, not %+v; %v pending", i+1, shown(x.c), shown(w.clients[0].c), x.c.Pending())
		}
	}
	if n := len(w.common); n < 20 {
		t.Fatalf("the test's own fault: %d common rounds", n)
	}
}

// TestManyRounds is P17.2 to P17.5: more rounds than a byte or two can count.
func TestManyRounds(t *testing.T) {
	const many = 1<<16 + 300
	c := usual()
	c.push = 2
	x := begun(t, c)
	for n := range many {
		x.update(t, add("a", 1))
		x.push(t)
		if n > 0 {
			x.take(t, x.next())
		}
	}
	x.unchanged(t, "many rounds")
	number(t, x.c, "a", many)
	x.refusesTake(t, of(2, many-1), of(2, many-1<<16), of(2, many+1))
	x.take(t, x.next())
	x.refusesTake(t, of(2, many), of(2, many+1))
	if !x.c.Confirmed() || len(x.c.Known()) != many {
		t.Fatalf("%d known, %d pending", len(x.c.Known()), len(x.c.Pending()))
	}
	x.update(t, add("a", 1))
	x.resumes(t)
	x.update(t, add("a", 1))
	x.refusesPush(t, api.ErrFull)
	if n := len(x.c.Pending()); n != many {
		t.Fatalf("%d pending", n)
	}
	for range many - 1 {
		x.take(t, x.next())
	}
	x.update(t, add("a", 1))
	if e := x.push(t); e != api.OK {
		t.Fatalf("Push: %d", e)
	}
	x.unchanged(t, "behind Resume")
	number(t, x.c, "a", many+2)
}
