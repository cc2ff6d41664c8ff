package link

import (
	"slices"
	"strconv"
	"testing"

	"chapbook/api"
)

// side is an end with what the test knows of it: by epoch, what was offered to it with OK, and what it popped.
type side struct {
	l               *Link
	name            string
	offered, popped map[int][]string
}

// road is two ends, and the frames that are on their way to each of them.
type road struct {
	active, passive *side
	toward          map[*side][]api.Frame
}

func newSide(name string, l *Link) *side {
	return &side{l: l, name: name, offered: map[int][]string{}, popped: map[int][]string{}}
}

// newRoad: an end of the epoch 1 that isn't passive, and one of the epoch 0 that is.
func newRoad(window, room int) *road {
	return &road{newSide("active", New(1, window, room, false)), newSide("passive", New(0, window, room, true)), map[*side][]api.Frame{}}
}

func (r *road) other(s *side) *side {
	if s == r.active {
		return r.passive
	}
	return r.active
}

// offer hands an end data that no other has.
func (r *road) offer(s *side) {
	epoch := s.l.Epoch()
	data := s.name + " " + strconv.Itoa(epoch) + " " + strconv.Itoa(len(s.offered[epoch]))
	if s.l.Offer(data) == api.OK {
		s.offered[epoch] = append(s.offered[epoch], data)
	}
}

func (r *road) pop(s *side) {
	if data, ok := s.l.Pop(); ok {
		s.popped[s.l.Epoch()] = append(s.popped[s.l.Epoch()], data)
	}
}

func (r *road) popAll(s *side) {
	for range s.l.Waiting() {
		r.pop(s)
	}
}

// send lays an end's frames on the road.
func (r *road) send(s *side) {
	to := r.other(s)
	r.toward[to] = append(r.toward[to], s.l.Frames()...)
}

// hear hands an end the frame at a place of those on their way to it, which stays there too, if it comes twice.
func (r *road) hear(t *testing.T, s *side, place int, twice bool) {
	t.Helper()
	f := r.toward[s][place]
	if !twice {
		r.drop(s, place)
	}
	want := s == r.passive && f.Epoch > s.l.Epoch()
	if got := s.l.Hear(f); got != want {
		t.Fatalf("%s: Hear %v: %v", s.name, f, got)
	}
}

func (r *road) drop(s *side, place int) {
	r.toward[s] = slices.Delete(r.toward[s], place, place+1)
}

// fail: the active end is lost, and a fresh one of the next epoch stands in its place.
func (r *road) fail(window, room int) {
	r.active.l = New(r.active.l.Epoch()+1, window, room, false)
}

// begins is P12.4: what each end popped in an epoch is a beginning of what was offered to the other one in it, in order, each piece once.
func (r *road) begins(t *testing.T) {
	t.Helper()
	for _, s := range []*side{r.active, r.passive} {
		for epoch, popped := range s.popped {
			offered := r.other(s).offered[epoch]
			if len(popped) > len(offered) || !slices.Equal(popped, offered[:len(popped)]) {
				t.Fatalf("epoch %d: %s popped %q of %q", epoch, s.name, popped, offered)
			}
		}
	}
}

// drain sends, hears and pops without loss, till nothing is left.
func (r *road) drain(t *testing.T) {
	t.Helper()
	for range 200 {
		for _, s := range []*side{r.active, r.passive} {
			r.send(s)
			to := r.other(s)
			for len(r.toward[to]) > 0 {
				r.hear(t, to, 0, false)
				r.popAll(to)
			}
			r.popAll(s)
		}
	}
}

// allCame is P12.4: in the epoch that both ends are of now, each has popped all that was offered to the other one.
func (r *road) allCame(t *testing.T) {
	t.Helper()
	epoch := r.active.l.Epoch()
	if n := r.passive.l.Epoch(); n != epoch {
		t.Fatalf("the passive end is of epoch %d, not %d", n, epoch)
	}
	for _, s := range []*side{r.active, r.passive} {
		if want := r.other(s).offered[epoch]; !slices.Equal(s.popped[epoch], want) {
			t.Fatalf("epoch %d: %s popped %q, not %q", epoch, s.name, s.popped[epoch], want)
		}
		if s.l.Unacked() != 0 || s.l.Waiting() != 0 {
			t.Fatalf("epoch %d: %s: %d unacknowledged, %d wait", epoch, s.name, s.l.Unacked(), s.l.Waiting())
		}
	}
}

// step does something to one of the ends, or to a frame on its way to it.
func (r *road) step(t *testing.T, c *chance) {
	t.Helper()
	s := r.active
	if c.below(2) == 0 {
		s = r.passive
	}
	many := len(r.toward[s])
	switch n := c.below(12); {
	case n < 3:
		r.offer(s)
	case n < 5:
		r.pop(s)
	case n < 7:
		r.send(s)
	case many == 0:
	case n < 8 || many > 200:
		r.drop(s, c.below(many))
	case n < 11:
		r.hear(t, s, c.below(many), c.below(3) == 0) // any of them: late ones, and those of elder epochs
	default:
		r.hear(t, s, 0, false)
	}
}

// TestOneEpoch is P12.4: frames lost, doubled, late and in any order, of one epoch, with each window and room.
func TestOneEpoch(t *testing.T) {
	c := chance(3)
	for window := 1; window <= 16; window++ {
		for _, room := range []int{1, 2, window, 17 - window, 16} {
			r := newRoad(window, room)
			for range 600 {
				r.step(t, &c)
				r.begins(t)
			}
			r.drain(t)
			r.begins(t)
			r.allCame(t)
			if len(r.active.offered[1]) < 2 || len(r.passive.offered[1]) < 2 {
				t.Fatalf("window %d: too little was offered to tell anything: %v %v", window, r.active.offered, r.passive.offered)
			}
		}
	}
}

// TestMoreThanOneEpoch is P12.4: the active end fails time and again, while frames of its elder epochs are still on their way.
func TestMoreThanOneEpoch(t *testing.T) {
	c := chance(4)
	for window := 1; window <= 16; window++ {
		for _, room := range []int{1, 2, 17 - window, 16} {
			r := newRoad(window, room)
			for range 1200 {
				r.step(t, &c)
				if c.below(60) == 0 {
					r.fail(window, room)
				}
				r.begins(t)
			}
			r.drain(t)
			for range 2*window + 3 { // and on, in the last epoch
				r.offer(r.active)
				r.offer(r.passive)
				r.drain(t)
			}
			r.begins(t)
			r.allCame(t)
			if n := r.active.l.Epoch(); n < 4 || len(r.active.offered[n]) < 2*window+3 {
				t.Fatalf("window %d: %d epochs, %v", window, n, r.active.offered)
			}
		}
	}
}

// TestAllIsHeardOften is P12.4: each frame that was ever sent comes again and again, in both directions, whenever anything is done.
func TestAllIsHeardOften(t *testing.T) {
	for _, backward := range []bool{false, true} {
		r := newRoad(3, 2)
		for round := range 24 {
			r.offer(r.active)
			r.offer(r.passive)
			for _, s := range []*side{r.passive, r.active} {
				r.send(r.other(s))
				for i := range r.toward[s] {
					if backward {
						i = len(r.toward[s]) - 1 - i
					}
					r.hear(t, s, i, true)
					r.begins(t)
				}
				r.pop(s)
			}
			r.begins(t)
			if round%8 == 7 {
				r.fail(3, 2)
			}
		}
		r.drain(t)
		r.begins(t)
		r.allCame(t)
		if len(r.passive.popped[1]) == 0 || len(r.active.popped[3]) == 0 {
			t.Fatalf("too little was popped to tell anything: %v %v", r.active.popped, r.passive.popped)
		}
	}
}

// TestWithoutLoss is P12.4: more than a window of pieces, both ways: all of them come, in order.
func TestWithoutLoss(t *testing.T) {
	for window := 1; window <= 16; window++ {
		for room := 1; room <= 16; room++ {
			r := newRoad(window, room)
			r.drain(t)
			for range 4 {
				for range window + 1 {
					r.offer(r.active)
					r.offer(r.passive)
				}
				r.drain(t)
				r.allCame(t)
			}
			if len(r.active.offered[1]) != 4*window || len(r.passive.offered[1]) != 4*window {
				t.Fatalf("window %d: %d and %d were offered", window, len(r.active.offered[1]), len(r.passive.offered[1]))
			}
		}
	}
}

// TestNothingIsSentAhead is P12.2 and P12.4: what is offered to a passive end of the epoch 0 is on no frame, and is gone once it is fresh: it was offered in no epoch of the other end.
func TestNothingIsSentAhead(t *testing.T) {
	r := newRoad(4, 4)
	for range 4 {
		r.offer(r.passive)
	}
	r.send(r.passive)
	if n := len(r.toward[r.active]); n != 0 {
		t.Fatalf("%d frames of the epoch 0", n)
	}
	r.drain(t)
	r.allCame(t)
	if len(r.active.popped[0])+len(r.active.popped[1]) != 0 {
		t.Fatalf("popped %v", r.active.popped)
	}
	r.offer(r.passive)
	r.drain(t)
	r.allCame(t)
	if want := []string{"passive 1 0"}; !slices.Equal(r.active.popped[1], want) {
		t.Fatalf("popped %q, not %q", r.active.popped[1], want)
	}
}

// TestTwoThatArentPassive is P12.4: two ends of one epoch, neither of them passive; of two epochs, nothing passes.
func TestTwoThatArentPassive(t *testing.T) {
	for _, epoch := range []int{1, 2, maxEpoch} {
		r := newRoad(3, 2)
		r.active.l, r.passive.l = New(epoch, 3, 2, false), New(epoch, 3, 2, false)
		c := chance(epoch)
		for range 600 {
			r.step(t, &c)
			r.begins(t)
		}
		r.drain(t)
		r.allCame(t)
		if len(r.active.popped[epoch]) < 2 || len(r.passive.popped[epoch]) < 2 {
			t.Fatalf("epoch %d: too little was popped to tell anything", epoch)
		}
	}
	one, other := begun(t, 1, 3, 2, false), begun(t, 2, 3, 2, false)
	one.offer(t, "one")
	other.offer(t, "other")
	other.deaf(t, one.l.Frames()...)
	one.deaf(t, other.l.Frames()...)
}
