package feed

import (
	"slices"
	"strconv"
	"testing"

	"chapbook/api"
	"chapbook/link"
)

// chance gives numbers that look like chance, the same ones each time.
type chance uint64

func (c *chance) below(n int) int {
	*c = *c*6364136223846793005 + 1442695040888963407
	return int(uint64(*c) >> 33 % uint64(n))
}

// addNext adds the next ordinary round of an origin.
func (x *fed) addNext(t *testing.T, origin int) {
	t.Helper()
	x.add(t, ordinary(origin, x.l.Last(origin)+1))
}

// steps is how many things step knows.
const steps = 8

// step does one of these things.
func (x *fed) step(t *testing.T, what int) {
	t.Helper()
	switch what {
	case 0:
		x.addNext(t, 1)
	case 1:
		x.addNext(t, 2)
	case 2:
		x.pump(t)
	case 3:
		x.ack(t, 1)
	case 4:
		x.ackAll(t)
	case 5:
		x.reset(t)
	case 6:
		x.hear(t, api.Frame{Epoch: x.p.epoch + 1}) // fresh, if it is passive
	case 7:
		x.hear(t, api.Frame{Epoch: x.p.epoch - 1, Ack: 1})
	}
}

// TestAllOrders is P15.1 and P15.2: against plain ones, each order of up to five steps, with small windows, behind two rounds that are there from the beginning.
func TestAllOrders(t *testing.T) {
	const base = steps + 1 // one more, for no step at all
	for window := 1; window <= 2; window++ {
		for _, passive := range []bool{false, true} {
			for order := range base * base * base * base * base {
				x := begun(t, 0, window, passive, ordinary(3, 1), ordinary(3, 2))
				for o := order; o > 0; o /= base {
					if o%base > 0 {
						x.step(t, o%base-1)
					}
				}
				x.pump(t)
			}
		}
	}
}

// TestLongOrders is P15.1 and P15.2: against plain ones, over long orders, with each window, passive and not.
func TestLongOrders(t *testing.T) {
	c := chance(1)
	for window := 1; window <= 16; window++ {
		for _, passive := range []bool{false, true} {
			x := begun(t, window%3, window, passive)
			for range 600 {
				switch n := c.below(100); {
				case n < 20:
					x.addNext(t, c.below(64)+1)
				case n < 40:
					x.pump(t)
				case n < 60:
					x.ack(t, c.below(window+2)-1)
				case n < 97:
					x.step(t, n%5) // neither reset nor fresh, which come seldom, so that the place comes far
				case n < 98:
					x.relink(t, x.p.epoch+1)
				default:
					x.step(t, 5+c.below(steps-5))
				}
			}
			x.drain(t)
		}
	}
}

// road is a log, a passive link and a feed at one end, a link that isn't passive at the other one, and the frames that are on their way to each.
type road struct {
	x                *fed
	window, room     int
	client           *link.Link
	toClient, toNode []api.Frame
	popped           []string // by the client, in its epoch
	lives            int      // how many epochs of the client began, as far as it is known at this end
}

func newRoad(t *testing.T, window, room int) *road {
	t.Helper()
	return &road{x: begun(t, 0, window, true), window: window, room: room, client: link.New(1, 4, room, false)}
}

// fail: the client is lost, with all that it popped, and a fresh one of the next epoch stands in its place.
func (r *road) fail() {
	r.client = link.New(r.client.Epoch()+1, 4, r.room, false)
	r.popped = nil
}

// pump offers what the link takes; its frames go on their way.
func (r *road) pump() {
	r.x.f.Pump(r.x.l, r.x.k)
	r.toClient = append(r.toClient, r.x.k.Frames()...)
}

// hearNode: a frame of the client comes; if the link is fresh by it, the feed begins anew.
func (r *road) hearNode(f api.Frame) {
	if r.x.k.Hear(f) {
		r.x.f.Reset()
		r.lives++
	}
}

// hearClient: a frame comes to the client, which pops all that waits.
func (r *road) hearClient(f api.Frame) {
	r.client.Hear(f)
	for data, ok := r.client.Pop(); ok; data, ok = r.client.Pop() {
		r.popped = append(r.popped, data)
	}
}

// take is the frame at a place of a list, which it stays at, if it comes twice, and the list behind it.
func take(c *chance, l []api.Frame) (api.Frame, []api.Frame) {
	place := c.below(len(l))
	f := l[place]
	if c.below(3) > 0 {
		l = slices.Delete(l, place, place+1)
	}
	return f, l
}

// step does something at one of the ends, or with a frame that is on its way.
func (r *road) step(c *chance) {
	var f api.Frame
	switch n := c.below(20); {
	case n < 4:
		origin := c.below(5) + 1
		r.x.l.Add(ordinary(origin, r.x.l.Last(origin)+1))
	case n < 8:
		r.pump()
	case n < 10:
		r.toNode = append(r.toNode, r.client.Frames()...)
	case n < 14 && len(r.toClient) > 0:
		f, r.toClient = take(c, r.toClient)
		r.hearClient(f)
	case n < 18 && len(r.toNode) > 0:
		f, r.toNode = take(c, r.toNode)
		r.hearNode(f)
	case n == 18 && len(r.toClient) > 0:
		_, r.toClient = take(c, r.toClient) // it is lost
	case n == 19 && len(r.toNode) > 0:
		_, r.toNode = take(c, r.toNode)
	}
}

// begins is P15.2: what the client popped in its epoch is a beginning of the log's rounds, in order, without gaps.
func (r *road) begins(t *testing.T) {
	t.Helper()
	for i, data := range r.popped {
		x, ok := r.x.l.At(i)
		if !ok || data != bytesOf(t, x) {
			t.Fatalf("at the place %d: %q, not %#v", i, data, x)
		}
	}
	if n := r.x.f.At(); n > r.x.l.Len() {
		t.Fatalf("At %d of %d", n, r.x.l.Len())
	}
}

// drain: nothing is lost any more, till the client has all.
func (r *road) drain(t *testing.T) {
	t.Helper()
	r.toClient, r.toNode = nil, nil
	for range r.x.l.Len() + 4 {
		for _, f := range r.client.Frames() {
			r.hearNode(f)
		}
		r.pump()
		for _, f := range r.toClient {
			r.hearClient(f)
		}
		r.toClient = nil
		r.begins(t)
	}
	for _, f := range r.client.Frames() {
		r.hearNode(f)
	}
	if n := r.x.l.Len(); len(r.popped) != n || r.x.f.At() != n || r.x.k.Unacked() != 0 || r.x.f.Pump(r.x.l, r.x.k) != 0 {
		t.Fatalf("the client has %d of %d, At %d", len(r.popped), n, r.x.f.At())
	}
}

// TestRoad is P15.2: over a road that loses, doubles, delays and shuffles frames the client comes to have the log's rounds, each once, in order.
func TestRoad(t *testing.T) {
	c := chance(2)
	for window := 1; window <= 16; window++ {
		for _, room := range []int{1, 2, 17 - window, 16} {
			t.Run(strconv.Itoa(window)+" "+strconv.Itoa(room), func(t *testing.T) {
				r := newRoad(t, window, room)
				for range 400 {
					r.step(&c)
					r.begins(t)
				}
				r.drain(t)
				if r.lives != 1 || len(r.popped) < 10 {
					t.Fatalf("%d lives, %d popped: too little to tell anything", r.lives, len(r.popped))
				}
			})
		}
	}
}

// TestRoadWithFailures is P15.2: the client fails time and again, while frames of its elder epochs are on their way; to each life the log is told anew, from the first round on.
func TestRoadWithFailures(t *testing.T) {
	c := chance(3)
	for window := 1; window <= 16; window++ {
		for _, room := range []int{1, 17 - window} {
			r := newRoad(t, window, room)
			for range 800 {
				r.step(&c)
				if c.below(60) == 0 {
					r.fail()
				}
				r.begins(t)
			}
			r.drain(t)
			for range 20 { // and on, in the last epoch
				r.step(&c)
				r.begins(t)
			}
			r.drain(t)
			if r.lives < 3 || len(r.popped) < 20 {
				t.Fatalf("%d lives, %d popped: too little to tell anything", r.lives, len(r.popped))
			}
		}
	}
}
