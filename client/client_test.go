package client

import (
	"math"
	"slices"
	"strings"
	"testing"
	"unsafe"

	"chapbook/api"
	"chapbook/journal"
	"chapbook/round"
)

// number looks whether a key is read as a number.
func number(t *testing.T, c *Client, key string, want int64) {
	t.Helper()
	if v := c.Read(key); v != (api.Value{Kind: api.VNumber, N: want}) {
		t.Fatalf("Read %q: %+v, not %d", key, v, want)
	}
}

// TestDocumentExample is P17.1 to P17.4: the chapter's, with all values written out.
func TestDocumentExample(t *testing.T) {
	j := journal.New(1, maxLast)
	c := New(j, 1, 64, 1)
	if !c.Confirmed() || c.Len() != 0 || c.Read("a") != (api.Value{}) {
		t.Fatalf("new: %+v, %d keys", c.Read("a"), c.Len())
	}
	if e := c.Update(add("a", 1)); e != api.OK || c.Confirmed() {
		t.Fatalf("Update: %d", e)
	}
	number(t, c, "a", 1)
	if r, e := c.Push(); e != api.OK || !same(r, of(1, 1, add("a", 1))) || c.Confirmed() {
		t.Fatalf("Push: %v %d", r, e)
	}
	number(t, c, "a", 1)
	if e := c.Take(of(2, 1, add("a", 5))); e != api.OK || c.Confirmed() {
		t.Fatalf("Take another's: %d", e)
	}
	number(t, c, "a", 6)
	if e := c.Take(of(1, 1, add("a", 1))); e != api.OK || !c.Confirmed() {
		t.Fatalf("Take its own: %d", e)
	}
	number(t, c, "a", 6)
	tells(t, "Known", c.Known(), []api.Round{of(2, 1, add("a", 5)), of(1, 1, add("a", 1))})
	if len(c.Pending()) != 0 || len(c.Open()) != 0 || c.Len() != 1 || j.Len() != 1 {
		t.Fatalf("%v pending, %v open, %d keys", c.Pending(), c.Open(), c.Len())
	}
}

// TestOrderOfWhatIsRead is P17.3: the known rounds, then the pending ones, then the open updates, whichever came first; all values are written out.
func TestOrderOfWhatIsRead(t *testing.T) {
	x := begun(t, usual())
	text := func(want string) {
		t.Helper()
		if v := x.c.Read("t"); v != (api.Value{Kind: api.VText, S: want}) {
			t.Fatalf("%+v, not %q", v, want)
		}
	}
	x.updates(t, app("t", "p"))
	x.pushes(t, 1)
	x.updates(t, app("t", "o"))
	text("po")
	x.takes(t, of(1, 1, app("t", "k")))
	text("kpo")
	x.pushes(t, 1)
	x.updates(t, app("t", "q"))
	text("kpoq")
	x.takes(t, of(3, 1, app("t", "l")))
	text("klpoq")
	x.takesOwn(t, 1)
	text("klpoq")
	x.takes(t, of(1, 2, app("t", "m")))
	text("klpmoq")
	x.takes(t, of(1, 3, put("t", "")))
	text("oq")
	x.takes(t, of(1, 4, set("t", 5)))
	number(t, x.c, "t", 5)
	x.takes(t, of(1, 5, del("t"), app("n", "n")))
	text("oq")
	if n := x.c.Len(); n != 2 {
		t.Fatalf("Len %d", n)
	}
	x.resumes(t)
	text("po")
}

// TestNew is P17.1: it knows nothing, all that the journal has is pending, and is read, whatever its other numbers.
func TestNew(t *testing.T) {
	for ahead := range 24 {
		for _, n := range append(far(), 0, 1, 2, 3, 16, 17, 64, 1400) {
			x := begun(t, config{origin: 5, mtu: n, push: n, last: max(ahead, 1), ahead: ahead})
			if len(x.c.Known()) != 0 || len(x.c.Pending()) != ahead || x.c.Confirmed() != (ahead == 0) {
				t.Fatalf("%d ahead: %v known, %v pending", ahead, x.c.Known(), x.c.Pending())
			}
			x.refusesPush(t, api.ErrNone)
		}
	}
}

// TestOrigins is P17.1 and P17.2: rounds are of the client's origin; of one that may not be none is pushed, by the journal's error.
func TestOrigins(t *testing.T) {
	for origin := 1; origin <= 64; origin++ {
		x := begun(t, config{origin: origin, mtu: 100, push: 2, last: 9})
		x.updates(t, del("k"))
		x.pushes(t, 2)
		x.takes(t, of(origin%64+1, 1, set("a", 1)))
		x.takesOwn(t, 2)
	}
	for _, origin := range append(far(), 0, 65, 66) {
		x := begun(t, config{origin: origin, mtu: 100, push: 2, last: 9})
		x.updates(t, set("a", 1), add("a", 2))
		x.refusesPush(t, api.ErrRange)
		x.takes(t, of(1, 1, set("a", 5)))
		x.refusesTake(t, of(origin, 1, set("a", 6)))
		number(t, x.c, "a", 3)
		x.resumes(t)
	}
}

// pushBounds: pushes, and as how many rounds they count.
func pushBounds() map[int]int {
	m := map[int]int{0: 1, -1: 1, -2: 1, -16: 1, -17: 1, 17: 16, 18: 16, 32: 16, 33: 16, 64: 16, math.MinInt: 1, math.MaxInt: 16, 2 - 1<<32: 1, 1<<32 + 2: 16}
	for push := 1; push <= 16; push++ {
		m[push] = push
	}
	return m
}

// TestPushes is P17.1 and P17.2: at each push, as many rounds as that are pending, then none more; each Take of one makes room for one.
func TestPushes(t *testing.T) {
	for push, counts := range pushBounds() {
		c := usual()
		c.push = push
		x := begun(t, c)
		x.pushes(t, counts)
		x.refusesPush(t, api.ErrNone)
		x.updates(t, del("k"))
		for range 3 {
			x.refusesPush(t, api.ErrFull)
			x.takes(t, ordinary(1, 1), ordinary(3, 9)) // others' rounds make no room
			x.refusesPush(t, api.ErrFull)
			x.takesOwn(t, 1)
			x.pushes(t, 1)
			x.updates(t, del("k"))
		}
		x.refusesPush(t, api.ErrFull)
		for _, many := range []int{1, (counts + 1) / 2, counts} {
			x.takesOwn(t, many)
			x.pushes(t, many)
			x.updates(t, del("k"))
			x.refusesPush(t, api.ErrFull)
		}
		x.takesOwn(t, counts)
		x.pushes(t, 1)
		x.takesOwn(t, 1)
		if !x.c.Confirmed() {
			t.Fatalf("push %d: not confirmed", push)
		}
	}
}

// TestMorePendingThanPush is P17.2: at each push, with more rounds pending by the journal, at New and behind a Resume: none is pushed till fewer than push are pending.
func TestMorePendingThanPush(t *testing.T) {
	for push, counts := range pushBounds() {
		for ahead := max(counts-2, 0); ahead <= counts+3; ahead++ {
			c := usual()
			c.push, c.ahead = push, ahead
			x := begun(t, c)
			for range 2 {
				x.updates(t, add("a", 3), del("k"))
				for len(x.p.pending) >= counts {
					x.refusesPush(t, api.ErrFull)
					x.takesOwn(t, 1)
				}
				x.pushes(t, 1+counts-len(x.p.pending)-1)
				x.updates(t, del("k"))
				x.refusesPush(t, api.ErrFull)
				x.resumes(t)
			}
			if n := len(x.c.Pending()); n < counts || n != x.j.Len() {
				t.Fatalf("push %d: %d pending of %d", push, n, x.j.Len())
			}
		}
	}
}

// sized is updates whose fields have so many bytes in all, from 4 on, as few as can be.
func sized(many int) []api.Update {
	var l []api.Update
	for left := (many + 50) / 51; left > 0; left-- {
		bytes := many / left // of this one; its key and its piece have three bytes less
		key := max(1, bytes-3-32)
		l = append(l, app(strings.Repeat("k", key), strings.Repeat("s", bytes-3-key)))
		many -= bytes
	}
	return l
}

// withMTU is a client of that mtu.
func withMTU(t *testing.T, mtu int) *pair {
	t.Helper()
	c := usual()
	c.mtu = mtu
	return begun(t, c)
}

// TestAlone is P17.1: at each mtu an update that alone just fits, and one that just doesn't, whose text, key or number is too long.
func TestAlone(t *testing.T) {
	for mtu := 64; mtu <= 110; mtu++ {
		fit := min(mtu-51, 51)
		x := withMTU(t, mtu)
		for bytes := 4; bytes <= 51; bytes++ {
			u := sized(bytes)[0]
			if bytes <= fit {
				x.resumes(t)
				x.updates(t, u)
			} else {
				x.refusesUpdate(t, u, api.ErrLong)
			}
		}
		x.resumes(t)
		x.updates(t, sized(fit)...)
		if fit < 51 { // not even one of a byte more stands there
			x.refusesUpdate(t, sized(fit + 1)[0], api.ErrLong)
			x.refusesUpdate(t, sized(51)[0], api.ErrLong)
		}
	}
	long := func(bytes int) string { return strings.Repeat("k", bytes) }
	for _, u := range []api.Update{del(long(11)), set(long(10), 31), set(long(10), -32), add(long(9), 32), set(long(9), 8191), set(long(9), -8192), put(long(10), ""),
		set(long(7), 8192), add(long(7), 1<<29-1), set(long(7), -1<<29), add(long(3), 1<<29), set(long(3), greatest), add(long(3), least), app(long(1), long(9)), put("\xff\xfe", "\x00\xff234567")} {
		x := withMTU(t, 64)
		if n := size(u); n != 13 {
			t.Fatalf("the test's own fault: %+v has %d bytes", u, n)
		}
		x.updates(t, u)
		u.Key += "+"
		x.refusesUpdate(t, u, api.ErrLong)
		withMTU(t, 65).updates(t, u)
	}
}

// TestWide is P17.1: updates at mtus at which each fits alone, up to the greatest.
func TestWide(t *testing.T) {
	for _, mtu := range []int{102, 103, 128, 256, 458, 459, 512, 1024, 1399, 1400} {
		for _, u := range append(goodUpdates(), sized(51)[0]) {
			withMTU(t, mtu).updates(t, u)
		}
	}
	withMTU(t, 101).refusesUpdate(t, sized(51)[0], api.ErrLong)
}

// goodUpdates are of each Kind, ordinary ones and such as are at the bounds.
func goodUpdates() []api.Update {
	return []api.Update{set("a", 3), put("name", "Ann"), add("count", -5), app("ab", "xyz"), del("gone"), set("k", 0), put("k", ""), add("k", 0), app("k", ""),
		put(key16, text32), app("\x00", text32), del(key16), set(key16, least), set("k", greatest), add(key16, greatest), add("k", least), put("\xff", "\x00")}
}

// TestWrongMTU is P17.1: by an mtu that may not be nothing fits: each update is ErrLong, but its own error comes first.
func TestWrongMTU(t *testing.T) {
	for _, mtu := range append(far(), 0, 1, 16, 40, 51, 62, 63, 1401, 1402, 1464, 2800, 1<<16+100, 1<<32+100) {
		x := withMTU(t, mtu)
		for _, u := range goodUpdates() {
			x.refusesUpdate(t, u, api.ErrLong)
		}
		for _, b := range badUpdates() {
			x.refusesUpdate(t, b.u, b.e)
		}
		x.refusesPush(t, api.ErrNone)
		x.takes(t, ordinary(1, 1))
	}
	withMTU(t, 64).updates(t, del("k"))
	withMTU(t, 1400).updates(t, del("k"))
}

// TestOpenFull is P17.1: at each mtu open updates that with one more just fit, and with one of a byte more just don't; a shorter one fits still, and a Push makes room.
func TestOpenFull(t *testing.T) {
	for mtu := 64; mtu <= 470; mtu++ {
		fit := min(mtu-51, 8*51)
		for more := 4; more <= min(fit-4, 50); more += 3 {
			open := sized(fit - more)
			if len(open) > 7 {
				continue
			}
			x := withMTU(t, mtu)
			for _, u := range open {
				x.update(t, u)
			}
			if fit == mtu-51 {
				x.refusesUpdate(t, sized(more + 1)[0], api.ErrFull)
				x.refusesUpdate(t, sized(min(fit, 51))[0], api.ErrFull)
			}
			x.updates(t, sized(more)[0])
			if e := x.update(t, del("k")); e != api.ErrFull {
				t.Fatalf("mtu %d: full: %d", mtu, e)
			}
			if e := x.push(t); e != api.OK {
				t.Fatalf("mtu %d: Push: %d", mtu, e)
			}
			x.updates(t, sized(more)[0], del("k"))
		}
	}
}

// TestNine is P17.1: eight updates are open at most, however short they are.
func TestNine(t *testing.T) {
	for _, mtu := range []int{75, 76, 459, 460, 1400} {
		for _, u := range []api.Update{del("k"), add("k", 1), sized(51)[0]} {
			if fits(mtu, slices.Repeat([]api.Update{u}, 8)...) {
				x := withMTU(t, mtu)
				x.updates(t, slices.Repeat([]api.Update{u}, 8)...)
				x.refusesUpdate(t, u, api.ErrFull)
				x.refusesUpdate(t, del("a"), api.ErrFull)
				x.pushes(t, 1)
				x.updates(t, slices.Repeat([]api.Update{u}, 8)...)
				x.refusesUpdate(t, u, api.ErrFull)
				x.resumes(t)
				x.updates(t, slices.Repeat([]api.Update{u}, 8)...)
			}
		}
	}
	x := withMTU(t, 458)
	x.updates(t, sized(7*51)...)
	x.refusesUpdate(t, sized(51)[0], api.ErrFull)
	x.updates(t, sized(50)...)
	x.refusesUpdate(t, del("k"), api.ErrFull)
}

// refused is an update that may not be, and why.
type refused struct {
	u api.Update
	e api.Errno
}

// badUpdates: updates that may not be, some for more than one reason: the first one is told.
func badUpdates() []refused {
	return []refused{
		{api.Update{}, api.ErrRange},
		{del(""), api.ErrRange},
		{del(key17), api.ErrRange},
		{put(strings.Repeat("k", 2000), strings.Repeat("s", 2000)), api.ErrRange},
		{api.Update{Key: "", Kind: 6, N: 1}, api.ErrRange},
		{api.Update{Key: key17, Kind: 9, N: 1, S: text33}, api.ErrRange},
		{api.Update{Key: "", Kind: api.UDelete, N: 1}, api.ErrRange},
		{api.Update{Key: "k"}, api.ErrKind},
		{api.Update{Key: "k", Kind: 6}, api.ErrKind},
		{api.Update{Key: key16, Kind: -1, N: 1}, api.ErrKind},
		{api.Update{Key: "k", Kind: 1<<32 + 1, N: 1}, api.ErrKind},
		{api.Update{Key: "k", Kind: math.MinInt, N: 1, S: "x"}, api.ErrKind},
		{api.Update{Key: "k", Kind: math.MaxInt, S: text33}, api.ErrKind},
		{api.Update{Key: "k", Kind: api.USet, S: "x"}, api.ErrForm},
		{api.Update{Key: "k", Kind: api.USet, N: greatest + 1, S: "x"}, api.ErrForm},
		{api.Update{Key: "k", Kind: api.UText, N: 1}, api.ErrForm},
		{api.Update{Key: "k", Kind: api.UText, N: 1, S: text33}, api.ErrForm},
		{api.Update{Key: "k", Kind: api.UAdd, N: least - 1, S: text33}, api.ErrForm},
		{api.Update{Key: "k", Kind: api.UAppend, N: -1, S: text33}, api.ErrForm},
		{api.Update{Key: "k", Kind: api.UDelete, N: 1}, api.ErrForm},
		{api.Update{Key: "k", Kind: api.UDelete, S: "x"}, api.ErrForm},
		{set("k", least-1), api.ErrRange},
		{set("k", greatest+1), api.ErrRange},
		{add("k", math.MinInt64), api.ErrRange},
		{add("k", math.MaxInt64), api.ErrRange},
		{put("k", text33), api.ErrRange},
		{app(key16, text33), api.ErrRange},
		{app("k", strings.Repeat("s", 2000)), api.ErrRange},
	}
}

// TestBadUpdates is P17.1: value.May's error comes first, whatever is open, and whatever fits.
func TestBadUpdates(t *testing.T) {
	for _, mtu := range []int{64, 65, 101, 102, 459, 1400} {
		x := withMTU(t, mtu)
		for many := 0; many < 12; many++ {
			for _, b := range badUpdates() {
				x.refusesUpdate(t, b.u, b.e)
			}
			x.update(t, del("k"))
		}
		x.pushes(t, 1)
		x.refusesUpdate(t, badUpdates()[0].u, api.ErrRange)
	}
}

// TestLongBeforeFull is P17.1: of an update that doesn't fit alone, nor behind the open ones, ErrLong is told.
func TestLongBeforeFull(t *testing.T) {
	for mtu := 64; mtu < 102; mtu++ {
		x := withMTU(t, mtu)
		x.updates(t, sized(mtu - 51)[0])
		x.refusesUpdate(t, sized(mtu - 51)[0], api.ErrFull)
		x.refusesUpdate(t, sized(mtu - 50)[0], api.ErrLong)
		x.pushes(t, 1)
		x.refusesUpdate(t, sized(mtu - 50)[0], api.ErrLong)
		x.updates(t, sized(mtu - 51)[0])
	}
}

// TestGoodUpdates is P17.1 to P17.3: each Kind comes to be open, pushed and known, and is read alike all the while.
func TestGoodUpdates(t *testing.T) {
	x := begun(t, usual())
	for _, u := range goodUpdates() {
		x.updates(t, u)
		x.pushes(t, 1)
		x.updates(t, u, u)
		x.pushes(t, 1)
		x.takesOwn(t, 2)
	}
}

// TestExhausted is P17.2: behind the journal's last number its error is told, and what is open stays so; that nothing is open, or too much is pending, comes first.
func TestExhausted(t *testing.T) {
	for last := 1; last <= 20; last++ {
		for ahead := 0; ahead <= last; ahead++ {
			x := begun(t, config{origin: 3, mtu: 200, push: 4, last: last, ahead: ahead})
			for len(x.p.journal) < last {
				x.takesOwn(t, len(x.p.pending))
				x.pushes(t, 1)
			}
			x.refusesPush(t, api.ErrNone)
			x.updates(t, add("a", 3))
			for len(x.p.pending) >= 4 {
				x.refusesPush(t, api.ErrFull)
				x.takesOwn(t, 1)
			}
			for len(x.p.pending) > 0 {
				x.refusesPush(t, api.ErrExhausted)
				x.takesOwn(t, 1)
			}
			x.updates(t, add("a", 4))
			x.refusesPush(t, api.ErrExhausted)
			x.takes(t, ordinary(1, 1))
			x.refusesPush(t, api.ErrExhausted)
			if x.c.Confirmed() || len(x.c.Open()) != 2 {
				t.Fatalf("last %d: %v open", last, x.c.Open())
			}
			x.resumes(t)
			x.refusesPush(t, api.ErrNone)
		}
	}
}

// TestPushNothing is P17.2: with nothing open ErrNone is told, whatever is pending, and whatever else is wrong.
func TestPushNothing(t *testing.T) {
	for ahead := range 20 {
		for _, last := range []int{max(ahead, 1), ahead + 1, maxLast} {
			for _, push := range []int{-1, 1, 2, 16, 99} {
				x := begun(t, config{origin: 3, mtu: 200, push: push, last: last, ahead: ahead})
				x.refusesPush(t, api.ErrNone)
				x.refusesUpdate(t, del(""), api.ErrRange)
				x.refusesPush(t, api.ErrNone)
				x.takesOwn(t, ahead)
				x.refusesPush(t, api.ErrNone)
			}
		}
	}
	x := begun(t, config{origin: 65, mtu: 200, push: 1, last: 1})
	x.refusesPush(t, api.ErrNone)
}

// others: rounds of other origins than 2, of any number, in any form.
func others() []api.Round {
	l := []api.Round{{}, of(1, 1), of(1, 1, del("a")), of(0, 1, set("a", 4)), of(3, 0, set("a", 5)), of(65, 1, add("a", 5)), of(1, 1, slices.Repeat([]api.Update{add("c", 1)}, 40)...),
		{Origin: 1, Number: 1, Updates: []api.Update{}}}
	for _, origin := range append(far(), 0, 1, 3, 63, 64, 65, 66, 130) {
		for _, number := range []int{0, 1, 2, 3, -1, maxLast + 1, math.MinInt, math.MaxInt} {
			l = append(l, of(origin, number, add("a", 1), app("t", "x")))
		}
	}
	for _, b := range badUpdates() {
		l = append(l, of(1, 1, b.u), of(1, 2, b.u, add("b", 1), b.u))
	}
	return l
}

// wrongOwn: rounds of the origin that aren't of that number.
func wrongOwn(origin, number int) []api.Round {
	var l []api.Round
	for _, n := range append(far(), 0, 1, 2, 3, 4, 5, 6, 16, 17, 64, 100, 257, 258) {
		if n != number {
			l = append(l, of(origin, n, set("a", 77)), of(origin, n))
		}
	}
	return l
}

// TestTakeOthers is P17.4: a round of another origin is known, whatever it is, and twice too.
func TestTakeOthers(t *testing.T) {
	for ahead := range 4 {
		c := usual()
		c.ahead = ahead
		x := begun(t, c)
		x.updates(t, app("t", "o"))
		for _, r := range others() {
			x.take(t, r)
			x.take(t, r)
		}
		x.holds(t, "behind the others' rounds")
		if n := len(x.c.Known()); n != 2*len(others()) || len(x.c.Pending()) != ahead {
			t.Fatalf("%d known, %d pending", n, len(x.c.Pending()))
		}
		x.takesOwn(t, ahead)
	}
}

// TestTakeOwn is P17.4: its own rounds are known one by one, as they were pushed; each other one, with none pending too, and again, is ErrOrder.
func TestTakeOwn(t *testing.T) {
	for ahead := range 6 {
		c := usual()
		c.ahead = ahead
		x := begun(t, c)
		for n := 1; n <= ahead; n++ {
			x.refusesTake(t, wrongOwn(2, n)...)
			x.takesOwn(t, 1)
			x.refusesTake(t, ordinary(2, n))
			x.takes(t, ordinary(1, n))
		}
		x.refusesTake(t, wrongOwn(2, math.MaxInt-2)...)
		x.refusesTake(t, of(2, ahead+1, add("a", 1)))
		x.updates(t, add("a", 1))
		x.refusesTake(t, of(2, ahead+1, add("a", 1))) // open isn't pending
		x.pushes(t, 1)
		x.refusesTake(t, wrongOwn(2, ahead+1)...)
		x.takesOwn(t, 1)
		x.refusesTake(t, of(2, ahead+1, add("a", 1)), of(2, ahead+2))
		if !x.c.Confirmed() || len(x.c.Known()) != 2*ahead+1 {
			t.Fatalf("%v", x.c.Known())
		}
	}
}

// TestTakeOwnWithOthersUpdates is P17.4: its own next number with other updates is known as it came, and what was pushed isn't pending any more; the journal stays.
func TestTakeOwnWithOthersUpdates(t *testing.T) {
	lists := [][]api.Update{nil, {}, {set("a", 41)}, {del("a"), put("new", "x")}, slices.Repeat([]api.Update{app("b", "b")}, 9), slices.Repeat([]api.Update{add("b", 1)}, 300)}
	for _, b := range badUpdates() {
		lists = append(lists, []api.Update{b.u}, []api.Update{set("a", 42), b.u, app("t", "z")})
	}
	for _, l := range lists {
		x := begun(t, config{origin: 4, mtu: 1400, push: 2, last: 9, ahead: 2})
		x.updates(t, add("a", 1))
		x.takes(t, of(4, 1, l...))
		tells(t, "Known", x.c.Known(), []api.Round{of(4, 1, l...)})
		x.pushes(t, 1)
		x.takes(t, of(4, 2, l...))
		x.refusesTake(t, of(4, 2, l...), of(4, 1, l...), of(4, 4, l...))
		x.takesOwn(t, 1)
		x.resumes(t)
		tells(t, "Pending", x.c.Pending(), x.j.From(0))
	}
}

// TestReadOfOthers is P17.3: keys that nothing touches, the empty one and long ones have no value.
func TestReadOfOthers(t *testing.T) {
	x := begun(t, usual())
	none := func() {
		t.Helper()
		for _, key := range []string{"", "none", "aa", "A", "a\x00", "\x00", key16, key17, strings.Repeat("a", 1<<20)} {
			if v := x.c.Read(key); v != (api.Value{}) {
				t.Fatalf("Read %.20q: %+v", key, v)
			}
		}
	}
	none()
	x.updates(t, set("a", 1), put("b", "x"))
	none()
	x.pushes(t, 1)
	none()
	x.takes(t, of(1, 1, set("", 1), set(key17, 2), put(strings.Repeat("a", 1<<20), "x"), set("a", 7)))
	none()
	number(t, x.c, "a", 1)
	x.takesOwn(t, 1)
	none()
	if n := x.c.Len(); n != 2 {
		t.Fatalf("Len %d", n)
	}
}

// TestLen is P17.3: keys that come to have no value any more aren't counted, wherever the update stands.
func TestLen(t *testing.T) {
	x := begun(t, usual())
	lens := func(want int) {
		t.Helper()
		if n := x.c.Len(); n != want {
			t.Fatalf("Len %d, not %d", n, want)
		}
	}
	lens(0)
	x.takes(t, of(1, 1, set("a", 1), set("b", 1), put("c", "")))
	lens(3)
	x.updates(t, del("a"), add("k", 0))
	lens(3)
	x.pushes(t, 1)
	x.updates(t, del("b"), del("none"))
	lens(2)
	x.takes(t, of(1, 2, del("c"), set("a", 5)))
	lens(1)
	x.takesOwn(t, 1)
	lens(1)
	x.takes(t, of(3, 1, set("a", 5)))
	lens(2)
	x.resumes(t)
	lens(1)
}

// shown is all that is read.
func shown(c *Client) []api.Value {
	l := []api.Value{{N: int64(c.Len())}}
	for _, key := range keys() {
		l = append(l, c.Read(key))
	}
	return l
}

// TestReadStays is P17.3: a Push, and the Take of its own first pending round while nothing else came to be known since, change nothing of what is read.
func TestReadStays(t *testing.T) {
	lists := [][]api.Update{{app("t", "1"), add("a", 1)}, {set("a", 9), del("t")}, {put("t", "2"), add("a", 3), app("u", "x")}, {del("a"), app("t", "3"), set("u", 2)}}
	for i := range 4 * 4 * 4 {
		x := begun(t, usual())
		x.takes(t, of(1, 1, add("a", 100), put("u", "u")))
		var before []api.Value
		stays := func(name string) {
			t.Helper()
			if after := shown(x.c); !slices.Equal(before, after) {
				t.Fatalf("%d: %s: %+v, not %+v", i, name, after, before)
			}
		}
		for k := i; k > 0; k /= 4 {
			x.updates(t, lists[k%4]...)
			before = shown(x.c)
			x.pushes(t, 1)
			stays("Push")
		}
		x.updates(t, app("t", "open"), add("a", 1000))
		before = shown(x.c)
		for len(x.p.pending) > 0 {
			x.takesOwn(t, 1)
			stays("Take of its own")
		}
	}
}

// TestConfirmed is P17.3: nothing pending, and nothing open: of each but one isn't enough.
func TestConfirmed(t *testing.T) {
	x := begun(t, usual())
	confirmed := func(want bool) {
		t.Helper()
		if yes := x.c.Confirmed(); yes != want {
			t.Fatalf("Confirmed: %t, with %v pending, %v open", yes, x.c.Pending(), x.c.Open())
		}
	}
	confirmed(true)
	x.takes(t, ordinary(1, 1))
	confirmed(true)
	x.updates(t, del("k"))
	confirmed(false)
	x.pushes(t, 1)
	confirmed(false)
	x.updates(t, del("k"))
	confirmed(false)
	x.takesOwn(t, 1)
	confirmed(false)
	x.pushes(t, 1)
	x.takesOwn(t, 1)
	confirmed(true)
	x.resumes(t)
	confirmed(false)
	x.takesOwn(t, 2)
	confirmed(true)
}

// TestResume is P17.5: of a client that knows nothing, of one whose rounds are known, all or some, and of one twice.
func TestResume(t *testing.T) {
	for ahead := range 6 {
		for own := range ahead + 1 {
			for open := range 4 {
				c := usual()
				c.ahead = ahead
				x := begun(t, c)
				x.resumes(t)
				x.updates(t, list(2*open)...)
				x.takesOwn(t, own)
				x.takes(t, ordinary(1, 1), ordinary(3, 1))
				for range 3 {
					x.resumes(t)
					if len(x.c.Known()) != 0 || len(x.c.Open()) != 0 || len(x.c.Pending()) != ahead || x.c.Confirmed() != (ahead == 0) {
						t.Fatalf("%v known, %v open, %v pending", x.c.Known(), x.c.Open(), x.c.Pending())
					}
				}
				x.refusesPush(t, api.ErrNone)
				x.refusesTake(t, wrongOwn(2, min(ahead, 1))...)
				x.takesOwn(t, ahead)
			}
		}
	}
}

// TestResumeKeepsWhatWasPushed is P17.5 and P17.2: what was pushed is pending, what was open is lost, and the next round's number has no gap.
func TestResumeKeepsWhatWasPushed(t *testing.T) {
	x := begun(t, usual())
	for range 5 {
		for len(x.p.pending) > 2 {
			x.takesOwn(t, 1)
		}
		x.updates(t, add("a", 1))
		x.pushes(t, 1)
		x.updates(t, add("a", 100))
		x.resumes(t)
		number(t, x.c, "a", int64(x.j.Len()))
	}
	if n := x.j.Len(); n != 5 {
		t.Fatalf("%d rounds", n)
	}
}

// TestTakenAgain is P17.5: behind Resume, with the same rounds taken in the same order, as much is known and pending as ahead.
func TestTakenAgain(t *testing.T) {
	for seed := range 40 {
		c := usual()
		c.push, c.ahead = 16, seed%4
		x := begun(t, c)
		for i := range 30 {
			switch n := (seed*7 + i*i + i/3) % 5; {
			case n < 2 && len(x.p.pending) > 0:
				x.takesOwn(t, 1)
			case n < 3:
				x.takes(t, ordinary(n+3, i))
			case len(x.p.pending) < 16:
				x.pushes(t, 1)
			}
		}
		known, pending := x.c.Known(), x.c.Pending()
		before := shown(x.c)
		for range 2 {
			x.resumes(t)
			x.takes(t, known...)
			tells(t, "Known", x.c.Known(), known)
			tells(t, "Pending", x.c.Pending(), pending)
			if after := shown(x.c); !slices.Equal(before, after) {
				t.Fatalf("%+v, not %+v", after, before)
			}
		}
	}
}

// spoil changes all of a list of updates, and of the room behind it.
func spoil(l []api.Update) {
	l = l[:cap(l)]
	for i := range l {
		l[i] = set("spoilt", int64(i))
	}
}

// spoilAll changes a list of rounds, and all of their updates, spare room too.
func spoilAll(l []api.Round) {
	l = l[:cap(l)]
	for i := range l {
		spoil(l[i].Updates)
		l[i] = of(9, 9)
	}
}

// TestAnswersAreTheCallers is rule 5: what the caller does with what Push, Known, Pending and Open told shows nowhere, nor in the journal, nor in another answer.
func TestAnswersAreTheCallers(t *testing.T) {
	x := begun(t, usual())
	for i := range 6 {
		x.takes(t, ordinary(1, i+1))
		x.updates(t, list(2*i)...)
		l := slices.Clone(x.p.open)
		r, _ := x.c.Push()
		x.p.doPush()
		spoil(r.Updates)
		x.holds(t, "behind a change of what Push told")
		if last, ok := x.j.At(x.j.Len() - 1); !ok || !slices.Equal(last.Updates, l) {
			t.Fatalf("in the journal: %v, not %v", last, l)
		}
		x.updates(t, app("t", "o"), del("k"))
		for _, tell := range []func() []api.Round{x.c.Known, x.c.Pending} {
			one, other := tell(), tell()
			for k := range one {
				spoil(one[k].Updates)
				tells(t, "rounds of one answer that share a list", one[k+1:], other[k+1:])
			}
			spoilAll(one)
			_ = append(one, of(8, 8))
			tells(t, "another answer", other, tell())
			x.holds(t, "behind a change of what was told")
		}
		one, other := x.c.Open(), x.c.Open()
		spoil(one)
		_ = append(one, del("spoilt"))
		if !slices.Equal(other, x.p.open) {
			t.Fatalf("another answer: %v", other)
		}
		x.holds(t, "behind a change of what Open told")
		if i > 0 {
			x.takesOwn(t, 1)
		}
		x.update(t, add("a", 1)) // and it goes on
		x.holds(t, "going on")
	}
	x.resumes(t)
}

// TestEarlierAnswersStay: what was told stays as it is, whatever is done later.
func TestEarlierAnswersStay(t *testing.T) {
	x := begun(t, usual())
	x.takes(t, ordinary(1, 1))
	x.pushes(t, 2)
	x.updates(t, add("a", 1), del("b"))
	known, pending, open := x.c.Known(), x.c.Pending(), x.c.Open()
	want := []api.Round{ordinary(1, 1)}
	x.takesOwn(t, 2)
	x.takes(t, ordinary(3, 1))
	x.updates(t, add("a", 2))
	x.pushes(t, 1)
	x.updates(t, put("x", "x"), put("y", "y"))
	x.resumes(t)
	x.updates(t, put("z", "z"))
	tells(t, "Known", known, want)
	tells(t, "Pending", pending, []api.Round{ordinary(2, 1), ordinary(2, 2)})
	if !slices.Equal(open, []api.Update{add("a", 1), del("b")}) {
		t.Fatalf("Open: %v", open)
	}
}

// TestHandedInStays is rule 5: Take changes nothing of the round that it is handed, nor its spare room, and doesn't keep it, whether it takes it or not.
func TestHandedInStays(t *testing.T) {
	fresh := func() []api.Update {
		return []api.Update{set("a", 1), del(""), app("t", "x"), del("spare"), del("room")}
	}
	for _, origin := range []int{1, 2} {
		for number := range 4 {
			for many := range 6 {
				c := usual()
				c.ahead = 2
				x := begun(t, c)
				room := fresh()
				x.take(t, of(origin, number, room[:many]...))
				x.holds(t, "Take")
				x.updates(t, add("a", 1))
				x.pushes(t, 1)
				spoilAll(x.c.Known())
				if !slices.Equal(room, fresh()) {
					t.Fatalf("of %d updates: %v", many, room)
				}
				spoil(room)
				x.unchanged(t, "behind a change of the round")
				room[0] = add("b", 1)
				x.take(t, of(1, 1, room...)) // the same list again, with other updates
				spoil(room)
				x.holds(t, "one list, twice")
			}
		}
	}
}

// memory is a text in memory that the test can change.
func memory(s string) (string, []byte) {
	b := []byte(s)
	return unsafe.String(&b[0], len(b)), b
}

// TestTextsAreNotKept is rule 5: what becomes of the memory of the texts that were handed in shows nowhere.
func TestTextsAreNotKept(t *testing.T) {
	x := begun(t, usual())
	for i := range 3 {
		var all [][]byte
		text := func(s string) string {
			s, b := memory(s)
			all = append(all, b)
			return s
		}
		x.c.Update(put(text("u"), text("open")))
		x.p.update(put("u", "open"))
		x.c.Take(of(1, 1, app(text("t"), text("known"))))
		x.p.take(of(1, 1, app("t", "known")))
		if v := x.c.Read(text("t")); v.S != strings.Repeat("known", i+1) {
			t.Fatalf("Read: %+v", v)
		}
		for _, b := range all {
			clear(b)
		}
		x.holds(t, "behind a change of the texts' memory")
		x.c.Push()
		x.p.doPush()
		x.holds(t, "pushed")
	}
}

// TestTextsAreNew: the texts that are told are memory of their own, so that none of them keeps a longer one.
func TestTextsAreNew(t *testing.T) {
	long := strings.Repeat("0123456789", 100)
	x := begun(t, usual())
	seen := map[*byte]bool{unsafe.StringData(long): true, unsafe.StringData(long[20:]): true}
	fresh := func(l ...string) {
		t.Helper()
		for _, s := range l {
			if p := unsafe.StringData(s); seen[p] {
				t.Fatalf("%q is told from elsewhere", s)
			} else {
				seen[p] = true
			}
		}
	}
	u := put(long[:10], long[20:40])
	x.c.Update(u)
	fresh(x.c.open[0].Key, x.c.open[0].S, x.c.Open()[0].Key, x.c.Open()[0].S, x.c.Read(long[:10]).S)
	r, _ := x.c.Push()
	fresh(r.Updates[0].Key, r.Updates[0].S, x.c.Pending()[0].Updates[0].Key, x.c.Pending()[0].Updates[0].S, x.c.Read(long[:10]).S)
	x.c.Take(of(2, 1, u))
	fresh(x.c.known[0].Updates[0].Key, x.c.known[0].Updates[0].S, x.c.Known()[0].Updates[0].Key, x.c.Known()[0].Updates[0].S, x.c.Read(long[:10]).S)
}

// TestTwoClients: two show nothing of each other, of one origin or of two.
func TestTwoClients(t *testing.T) {
	for _, origin := range []int{2, 3} {
		one := begun(t, usual())
		other := begun(t, config{origin: origin, mtu: 64, push: 1, last: 2})
		both := func(name string) {
			t.Helper()
			one.holds(t, name)
			other.holds(t, name)
		}
		one.updates(t, add("a", 1), put("t", "one"))
		both("the one has open updates")
		other.updates(t, add("a", 5))
		both("the other one too")
		one.pushes(t, 2)
		both("the one pushed")
		one.takes(t, of(1, 1, set("b", 1)))
		both("the one knows a round")
		other.pushes(t, 1)
		other.updates(t, del("a"))
		other.refusesPush(t, api.ErrFull)
		both("the other one is full")
		one.pushes(t, 1)
		one.takesOwn(t, 2)
		both("the one takes its own")
		other.takesOwn(t, 1)
		other.pushes(t, 1)
		spoilAll(other.c.Known())
		spoilAll(other.c.Pending())
		both("the other one's answers are changed")
		other.resumes(t)
		both("the other one resumes")
		one.resumes(t)
		both("the one resumes")
		third := begun(t, usual())
		third.pushes(t, 1)
		both("a third one")
	}
}

// TestJournalIsItsOwn is P17.1 and P17.5: what is pending behind New is what the journal has, and a client made anew by the same journal stands as one behind Resume.
func TestJournalIsItsOwn(t *testing.T) {
	x := begun(t, usual())
	for i := range 8 {
		x.pushes(t, 1)
		x.takesOwn(t, 1)
		x.takes(t, ordinary(1, i))
		anew := New(x.j, 2, 1400, 3)
		tells(t, "Pending", anew.Pending(), x.j.From(0))
		if len(anew.Known()) != 0 || len(anew.Open()) != 0 || x.j.Len() != i+1 {
			t.Fatalf("%v known, %v open", anew.Known(), anew.Open())
		}
		anew.Take(ordinary(1, 1))
		anew.Resume()
		x.holds(t, "behind another client of its journal")
	}
}

// TestRoundsCanGo: each round that is pushed has bytes that fit, of which it is got again (layer 7).
func TestRoundsCanGo(t *testing.T) {
	for _, mtu := range []int{64, 70, 102, 300, 1400} {
		c := usual()
		c.mtu, c.origin, c.push = mtu, 64, 16
		x := begun(t, c)
		for i := range 200 {
			x.update(t, goodUpdates()[i%17])
			if i%12 == 11 && x.push(t) == api.OK {
				r := x.c.Pending()[len(x.p.pending)-1]
				b, e := round.Put(r)
				got, e2 := round.Get(b)
				if e != api.OK || e2 != api.OK || !same(got, r) || len(b) > mtu-40 {
					t.Fatalf("mtu %d: %v: put %d, got %v %d, %d bytes", mtu, r, e, got, e2, len(b))
				}
			}
		}
	}
}

// TestAskedAgain is P17.3: asked again, and in any order, all is told and read the same, and nothing is changed.
func TestAskedAgain(t *testing.T) {
	x := begun(t, usual())
	x.takes(t, ordinary(1, 1))
	x.pushes(t, 2)
	x.takesOwn(t, 1)
	x.updates(t, app("t", "o"))
	for range 5 {
		x.unchanged(t, "again")
		x.c.Len()
		x.c.Read("a")
		x.c.Pending()
		x.unchanged(t, "in another order")
	}
}
