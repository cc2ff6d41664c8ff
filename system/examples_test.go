package system

import (
	"testing"

	"chapbook/api"
)

// The document's ten examples of the whole, as far as a system shows them.

// kSetTo is one of two clients, of which 1 has set k, and pushed it.
func kSetTo(t *testing.T, n int64) *pair {
	t.Helper()
	x := begun(t, usual())
	x.is(t, changes(1, set("k", n)), api.Reply{})
	x.is(t, at(push, 1), api.Reply{N: 1})
	return x
}

func TestExample1(t *testing.T) {
	x := kSetTo(t, 5)
	x.looks(t, 1, api.Look{Epoch: 1, Pending: 1})
	x.is(t, reads(1, "k"), number(5, 1))
	x.is(t, reads(2, "k"), api.Reply{})
	x.is(t, at(confirm, 1), api.Reply{})
	x.is(t, at(confirm, 2), api.Reply{Yes: true})
}

func TestExamples2And3(t *testing.T) {
	x := kSetTo(t, 5)
	x.is(t, at(tick, 1), api.Reply{N: 1})
	tells(t, "Log, on the way", x.s.Log(), nil)
	x.is(t, on(deliver, 0), api.Reply{})
	tells(t, "Log", x.s.Log(), []api.Round{of(1, 1, set("k", 5))})
	x.looks(t, 1, api.Look{Epoch: 1, Pending: 1, Unacked: 1})

	x.is(t, at(tick, 0), api.Reply{N: 1}) // to 1 alone
	x.is(t, on(deliver, 0), api.Reply{})
	x.looks(t, 1, api.Look{Epoch: 1, Pending: 1, Came: 1})
	x.is(t, at(pull, 1), api.Reply{N: 1})
	x.looks(t, 1, api.Look{Epoch: 1, Known: 1})
	x.is(t, at(confirm, 1), api.Reply{Yes: true})
	tells(t, "Known", x.s.Known(1), []api.Round{of(1, 1, set("k", 5))})
	tells(t, "Known of 2", x.s.Known(2), nil)

	x.is(t, at(tick, 2), api.Reply{N: 1})
	x.is(t, on(deliver, 0), api.Reply{})
	x.is(t, at(tick, 0), api.Reply{N: 2})
	x.is(t, on(deliver, 1), api.Reply{})
	x.is(t, reads(2, "k"), api.Reply{})
	x.is(t, at(pull, 2), api.Reply{N: 1})
	x.is(t, at(pull, 2), api.Reply{})
	x.is(t, reads(2, "k"), number(5, 1))
}

func TestExample4(t *testing.T) {
	x := begun(t, usual())
	x.done(t, changes(1, add("k", 5)), changes(2, add("k", 3)), at(push, 1), at(push, 2))
	x.is(t, reads(1, "k"), number(5, 1))
	x.is(t, reads(2, "k"), number(3, 1))
	x.settles(t)
	x.is(t, reads(1, "k"), number(8, 1))
	x.is(t, reads(2, "k"), number(8, 1))
}

func TestExample5(t *testing.T) {
	for first := 1; first <= 2; first++ {
		x := begun(t, usual())
		x.done(t, changes(1, set("k", 1)), changes(2, set("k", 2)), at(push, 1), at(push, 2))
		x.send(t, first, 3-first)
		x.settles(t)
		x.is(t, reads(1, "k"), number(int64(3-first), 1))
		x.is(t, reads(2, "k"), number(int64(3-first), 1))
	}
}

func TestExample6(t *testing.T) {
	x := kSetTo(t, 5)
	x.is(t, at(tick, 1), api.Reply{N: 1})
	x.is(t, on(drop, 0), api.Reply{})
	x.is(t, at(tick, 1), api.Reply{N: 1})
	x.is(t, on(twice, 0), api.Reply{})
	x.is(t, on(deliver, 1), api.Reply{})
	x.is(t, on(deliver, 0), api.Reply{})
	tells(t, "Log", x.s.Log(), []api.Round{of(1, 1, set("k", 5))})
	x.settles(t)
}

func TestExample7(t *testing.T) {
	for bit := range 8 * 64 {
		x := kSetTo(t, 5)
		x.is(t, at(tick, 1), api.Reply{N: 1})
		if bit >= 8*len(x.s.Flight()[0].Bytes) {
			break
		}
		x.is(t, spoils(0, bit, 1), api.Reply{})
		x.refuses(t, api.ErrSum, on(deliver, 0))
		tells(t, "Log", x.s.Log(), nil)
		x.ticks(t, 0, 0) // client 1 wasn't heard of
		x.settles(t)
	}
}

func TestExamples8And9(t *testing.T) {
	x := kSetTo(t, 5)
	x.turn(t)
	x.turn(t)
	x.done(t, changes(1, add("k", 1)), at(push, 1), changes(1, add("k", 1)), at(tick, 1), at(tick, 0))
	x.is(t, at(reset, 1), api.Reply{})
	x.looks(t, 1, api.Look{Epoch: 2, Pending: 2})
	x.is(t, reads(1, "k"), number(6, 1))
	tells(t, "Known", x.s.Known(1), nil)
	x.refuses(t, api.ErrStale, on(deliver, 1)) // what was sent to it in the epoch 1
	x.is(t, at(tick, 1), api.Reply{N: 2})      // both rounds
	x.is(t, on(deliver, 3), api.Reply{})
	x.refuses(t, api.ErrStale, on(deliver, 0)) // what it sent in the epoch 1
	x.settles(t)
	tells(t, "Known", x.s.Known(1), []api.Round{of(1, 1, set("k", 5)), of(1, 2, add("k", 1))})
}

func TestExample10(t *testing.T) {
	c := usual()
	c.Push = 1
	x := begun(t, c)
	x.done(t, changes(1, add("k", 1)), at(push, 1), changes(1, add("k", 1)))
	x.refuses(t, api.ErrFull, at(push, 1))
	x.send(t, 1, 0)
	x.refuses(t, api.ErrFull, at(push, 1)) // it came, and isn't pulled
	x.is(t, at(pull, 1), api.Reply{N: 1})
	x.is(t, at(push, 1), api.Reply{N: 2})
}
