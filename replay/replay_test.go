package replay

import (
	"math"
	"slices"
	"strings"
	"testing"
	"unsafe"

	"chapbook/api"
	"chapbook/store"
)

const (
	least    = -1 << 61 // of the numbers that an update may have
	greatest = 1<<61 - 1
)

// The edges of an update's texts.
const (
	key16  = "\x00\xff234567890abcde"
	text32 = "\xff234567890123456789012345678901\x00"
	key17  = "12345678901234567"
	text33 = "123456789012345678901234567890123"
)

var none = api.Value{}

// aNumber and aText make values.
func aNumber(n int64) api.Value { return api.Value{Kind: api.VNumber, N: n} }
func aText(s string) api.Value  { return api.Value{Kind: api.VText, S: s} }

// set, put, add, app and del make updates.
func set(key string, n int64) api.Update { return api.Update{Key: key, Kind: api.USet, N: n} }
func put(key, s string) api.Update       { return api.Update{Key: key, Kind: api.UText, S: s} }
func add(key string, n int64) api.Update { return api.Update{Key: key, Kind: api.UAdd, N: n} }
func app(key, s string) api.Update       { return api.Update{Key: key, Kind: api.UAppend, S: s} }
func del(key string) api.Update          { return api.Update{Key: key, Kind: api.UDelete} }

// updates makes a list of them, and of a round, with an origin and a number that may be.
func updates(l ...api.Update) []api.Update { return l }
func of(l ...api.Update) api.Round         { return api.Round{Origin: 1, Number: 1, Updates: l} }

// values is what keys have.
type values map[string]api.Value

// hollow: keys that no test touches.
var hollow = []string{"", "untouched", key17, strings.Repeat("k", 1000), "\x00\x00", "\xff\xff"}

// holds looks whether open updates and rounds make just these values, by State, Read and Len.
func holds(t *testing.T, name string, want values, open []api.Update, rounds ...api.Round) {
	t.Helper()
	holdsState(t, name, want, State(open, rounds...))
	if n := Len(open, rounds...); n != len(want) {
		t.Errorf("%s: Len %d, not %d", name, n, len(want))
	}
	for key, v := range want {
		if got := Read(key, open, rounds...); got != v {
			t.Errorf("%s: Read(%q) %v, not %v", name, key, got, v)
		}
	}
	for _, key := range valueless(want, open, rounds) {
		if got := Read(key, open, rounds...); got != none {
			t.Errorf("%s: Read(%q) %v, not none", name, key, got)
		}
	}
}

// holdsState looks whether a store has just these values.
func holdsState(t *testing.T, name string, want values, s *store.Store) {
	t.Helper()
	if s == nil {
		t.Fatalf("%s: no State", name)
	}
	if n := s.Len(); n != len(want) {
		t.Errorf("%s: the State has %d keys, %q, not %d", name, n, s.Keys(), len(want))
	}
	for key, v := range want {
		if got := s.Get(key); got != v {
			t.Errorf("%s: the State's %q is %v, not %v", name, key, got, v)
		}
	}
}

// valueless: keys that should have no value, though updates may name them.
func valueless(want values, open []api.Update, rounds []api.Round) []string {
	keys := slices.Clone(hollow)
	l := slices.Clone(open)
	for _, r := range rounds {
		l = append(l, r.Updates...)
	}
	for _, u := range l {
		keys = append(keys, u.Key)
	}
	return slices.DeleteFunc(keys, func(key string) bool { _, has := want[key]; return has })
}

// touches looks whether rounds touch just these keys.
func touches(t *testing.T, name string, want []string, rounds ...api.Round) {
	t.Helper()
	if got := Touched(rounds...); !slices.Equal(got, want) {
		t.Errorf("%s: Touched %q, not %q", name, got, want)
	}
}

// story is rounds of three origins, with updates of each Kind.
func story() []api.Round {
	return []api.Round{
		{Origin: 1, Number: 1, Updates: updates(set("n", 5), put("t", "ab"), set("gone", 1))},
		{Origin: 3, Number: 1, Updates: updates(add("n", -7), app("t", "c"), del("gone"), app("new", "x"))},
		{Origin: 2, Number: 1, Updates: updates(add("m", 4))},
		{Origin: 1, Number: 2, Updates: updates(app("n", "no"), add("t", 1), add("m", 4), put("new", ""))},
	}
}

// TestExample is the chapter's: rounds a+1, a+2, open a+3: Read(a) is 6, Len 1.
func TestExample(t *testing.T) {
	open := updates(add("a", 3))
	rounds := []api.Round{of(add("a", 1)), of(add("a", 2))}
	if v := Read("a", open, rounds...); v != aNumber(6) {
		t.Error(v)
	}
	if n := Len(open, rounds...); n != 1 {
		t.Error(n)
	}
	holds(t, "example", values{"a": aNumber(6)}, open, rounds...)
	holds(t, "without the open one", values{"a": aNumber(3)}, nil, rounds...)
	holds(t, "without rounds", values{"a": aNumber(3)}, open)
	touches(t, "example", []string{"a"}, rounds...)
}

// TestStory is P8.1 and P8.2: rounds of several origins, one behind the other, with open updates and without.
func TestStory(t *testing.T) {
	rounds := story()
	holds(t, "one round", values{"n": aNumber(5), "t": aText("ab"), "gone": aNumber(1)}, nil, rounds[:1]...)
	holds(t, "two", values{"n": aNumber(-2), "t": aText("abc"), "new": aText("x")}, nil, rounds[:2]...)
	holds(t, "three", values{"n": aNumber(-2), "t": aText("abc"), "new": aText("x"), "m": aNumber(4)}, nil, rounds[:3]...)
	holds(t, "all", values{"n": aNumber(-2), "t": aText("abc"), "new": aText(""), "m": aNumber(8)}, nil, rounds...)
	open := updates(del("n"), app("t", "d"), set("open", 0), add("m", 1), app("new", "y"))
	holds(t, "all, and open ones", values{"t": aText("abcd"), "new": aText("y"), "m": aNumber(9), "open": aNumber(0)}, open, rounds...)
	holds(t, "open ones alone", values{"t": aText("d"), "new": aText("y"), "m": aNumber(1), "open": aNumber(0)}, open)

	touches(t, "one round", []string{"gone", "n", "t"}, rounds[:1]...)
	touches(t, "two", []string{"gone", "n", "new", "t"}, rounds[:2]...)
	touches(t, "all", []string{"gone", "m", "n", "new", "t"}, rounds...)
	touches(t, "the last", []string{"m", "n", "new", "t"}, rounds[3:]...)
	slices.Reverse(rounds)
	touches(t, "all, the last one first", []string{"gone", "m", "n", "new", "t"}, rounds...)
	holds(t, "all, the last one first", values{"n": aNumber(5), "t": aText("ab"), "gone": aNumber(1), "new": aText("x"), "m": aNumber(8)}, nil, rounds...)
}

// TestNothing is P8.1 and P8.2 without rounds, with rounds without updates, without open updates; nil and empty lists.
func TestNothing(t *testing.T) {
	bare := api.Round{Origin: 1, Number: 1}
	empty := of(updates()...)
	empty.Updates = []api.Update{}
	for _, open := range [][]api.Update{nil, {}} {
		for _, rounds := range [][]api.Round{nil, {}, {bare}, {empty}, {{}}, {bare, empty, {}, bare}} {
			holds(t, "nothing", nil, open, rounds...)
			touches(t, "nothing", nil, rounds...)
		}
		holds(t, "bare ones around", values{"a": aNumber(3)}, open, bare, of(add("a", 1)), empty, of(add("a", 2)), bare)
	}
	touches(t, "bare ones around", []string{"a"}, bare, of(add("a", 1)), empty, of(add("a", 2)), bare)
	holds(t, "an open one behind bare ones", values{"a": aNumber(1)}, updates(add("a", 1)), bare, empty)
}

// TestSplits is P8.1: where one round ends and the next one begins plays no part, nor where the open ones begin; P8.2: nor for Touched.
func TestSplits(t *testing.T) {
	l := updates(set("a", 1), app("b", "x"), add("a", 2), del("b"), app("b", "y"), app("b", "z"), add("a", -4), put("c", ""), del("d"))
	want := values{"a": aNumber(-1), "b": aText("yz"), "c": aText("")}
	for cuts := range 1 << (len(l) - 1) {
		rounds := split(l, cuts)
		holds(t, "split", want, nil, rounds...)
		touches(t, "split", []string{"a", "b", "c", "d"}, rounds...)
		last := len(rounds) - 1
		holds(t, "split, the last ones open", want, rounds[last].Updates, rounds[:last]...)
	}
	holds(t, "all open", want, l)
}

// split cuts updates into rounds: behind each one whose bit is set.
func split(l []api.Update, cuts int) []api.Round {
	rounds := []api.Round{of()}
	for i, u := range l {
		r := &rounds[len(rounds)-1]
		r.Updates = append(r.Updates, u)
		if cuts>>i&1 == 1 && i < len(l)-1 {
			rounds = append(rounds, of())
		}
	}
	return rounds
}

// TestAllOrders is P8.1: a set, a text, an add and an append of one key in all orders, in each division into rounds and open ones.
func TestAllOrders(t *testing.T) {
	one := map[rune]api.Update{'s': set("k", 5), 't': put("k", "x"), 'a': add("k", 2), 'p': app("k", "y")}
	five, seven, x, xy := aNumber(5), aNumber(7), aText("x"), aText("xy")
	orders := map[string]api.Value{
		"stap": xy, "stpa": xy, "satp": xy, "sapt": x, "spta": x, "spat": x,
		"tsap": seven, "tspa": seven, "tasp": five, "taps": five, "tpsa": seven, "tpas": five,
		"astp": xy, "aspt": x, "atsp": five, "atps": five, "apst": x, "apts": five,
		"psta": x, "psat": x, "ptsa": seven, "ptas": five, "past": x, "pats": five,
	}
	if len(orders) != 24 {
		t.Fatal(len(orders))
	}
	for order, v := range orders {
		var l []api.Update
		for _, letter := range order {
			l = append(l, one[letter])
		}
		for cuts := range 8 {
			rounds := split(l, cuts)
			last := len(rounds) - 1
			holds(t, order, values{"k": v}, nil, rounds...)
			holds(t, order+", the last ones open", values{"k": v}, rounds[last].Updates, rounds[:last]...)
			holds(t, order+", then deleted", nil, updates(del("k")), rounds...)
			holds(t, order+", behind a delete", values{"k": v}, nil, append([]api.Round{of(set("k", 1), del("k"))}, rounds...)...)
			touches(t, order, []string{"k"}, rounds...)
		}
	}
}

// TestDeleted is P8.1 and P8.2: a key that is deleted counts no more, set again it does; it is touched all the same.
func TestDeleted(t *testing.T) {
	holds(t, "deleted", nil, nil, of(set("a", 1)), of(del("a")))
	holds(t, "deleted by an open one", nil, updates(del("a")), of(set("a", 1)))
	holds(t, "in one round", nil, nil, of(set("a", 1), del("a")))
	holds(t, "set again", values{"a": aNumber(2)}, nil, of(set("a", 1)), of(del("a")), of(set("a", 2)))
	holds(t, "added to again", values{"a": aNumber(2)}, updates(add("a", 2)), of(set("a", 1), del("a")))
	holds(t, "a text again", values{"a": aText("y")}, updates(app("a", "y")), of(put("a", "x")), of(del("a")))
	holds(t, "twice", nil, updates(del("a"), del("a")), of(del("a"), set("a", 1)))
	holds(t, "beside another one", values{"b": aNumber(0)}, nil, of(set("a", 1), set("b", 0)), of(del("a")))
	touches(t, "deleted", []string{"a"}, of(set("a", 1)), of(del("a")))
	touches(t, "never set", []string{"a"}, of(del("a")))
	touches(t, "the same", []string{"a"}, of(add("a", 1), add("a", 1)), of(add("a", 1)), of(del("a"), set("a", 1)))
}

// TestEdges is P8.1 and P8.2: the greatest and least numbers, the longest keys and texts; sums wrap, texts stay at 1024 bytes.
func TestEdges(t *testing.T) {
	l := updates(add("k", least), add("k", least), add("k", least), add("k", least))
	holds(t, "the least sum", values{"k": aNumber(math.MinInt64)}, nil, of(l...))
	holds(t, "a sum around", values{"k": aNumber(3 << 61)}, updates(add("k", least)), of(l...))
	holds(t, "around to 0", values{"k": aNumber(0)}, l, of(l...))
	holds(t, "the greatest", values{"k": aNumber(greatest), key16: aText(text32)}, updates(put(key16, text32)), of(set("k", greatest)))
	touches(t, "long keys", []string{"\x00", key16, "\xff"}, of(app("\xff", text32), del(key16), set("\x00", least)))

	full := slices.Repeat([]api.Round{of(slices.Repeat(updates(app("t", text32)), 8)...)}, 4)
	long := aText(strings.Repeat(text32, 32))
	holds(t, "1024 bytes", values{"t": long}, nil, full...)
	holds(t, "no more", values{"t": long}, updates(app("t", "x"), app("t", "")), full...)
}

// TestManyRounds is P8.1 and P8.2: many rounds, more updates in one than a round may have.
func TestManyRounds(t *testing.T) {
	var rounds []api.Round
	for i := range 1000 {
		rounds = append(rounds, api.Round{Origin: i%64 + 1, Number: i + 1, Updates: updates(add("n", int64(i)), set("last", int64(i)))})
	}
	holds(t, "many", values{"n": aNumber(499500), "last": aNumber(999)}, nil, rounds...)
	touches(t, "many", []string{"last", "n"}, rounds...)
	var l []api.Update
	want := values{}
	var keys []string
	for i := range 256 {
		key := string([]byte{byte(255 - i)})
		l = append(l, set(key, int64(i)))
		want[key] = aNumber(int64(i))
		keys = append(keys, string([]byte{byte(i)}))
	}
	holds(t, "one with many", want, nil, of(l...))
	holds(t, "many open ones", want, l)
	touches(t, "one with many", keys, of(l...))
}

// TestKeysAlike is P8.1 and P8.2: keys that differ in one byte, and one that is a beginning of the other, are other keys; they rise byte by byte.
func TestKeysAlike(t *testing.T) {
	rising := []string{"\x00", "\x00\x00", "A", "a", "a\x00", "aa", "aaa", "ab", "b", "ba", "\x7f", "\x80", "\xc3\xa4", "\xff", "\xff\x00"}
	want := values{}
	var rounds []api.Round
	for i, key := range rising {
		u := set(key, int64(i))
		rounds = append([]api.Round{of(u)}, rounds...)
		want[key] = aNumber(int64(i))
	}
	holds(t, "alike", want, nil, rounds...)
	touches(t, "alike", rising, rounds...)
	touches(t, "alike, twice", rising, slices.Repeat(rounds, 2)...)
	rounds = append(rounds, of(del("a"), add("ab", 100)))
	delete(want, "a")
	want["ab"] = aNumber(107)
	holds(t, "one of them deleted", want, nil, rounds...)
	holds(t, "one of them open", values{"a": aNumber(1), "b": aNumber(2)}, updates(set("b", 2)), of(set("a", 1)))
	long := strings.Repeat("k", 15)
	holds(t, "the last byte", values{long + "a": aNumber(1), long + "b": aNumber(2), long: aNumber(3)}, nil, of(set(long+"b", 2), set(long, 3), set(long+"a", 1)))
	touches(t, "the last byte", []string{long, long + "a", long + "b"}, of(set(long+"b", 2), set(long, 3), set(long+"a", 1)))
}

// refused: updates that may not be, for each of value.May's errors.
func refused() []api.Update {
	return updates(
		api.Update{},
		set("", 1),
		set(key17, 1),
		api.Update{Key: "a"},
		api.Update{Key: "a", Kind: 6, N: 1},
		api.Update{Key: "a", Kind: -1},
		api.Update{Key: "a", Kind: math.MinInt, N: math.MinInt64, S: text33},
		api.Update{Key: "a", Kind: api.USet, N: 1, S: "x"},
		api.Update{Key: "a", Kind: api.UText, N: 1, S: "x"},
		api.Update{Key: "a", Kind: api.UAdd, N: 1, S: "x"},
		api.Update{Key: "a", Kind: api.UAppend, N: 1, S: "x"},
		api.Update{Key: "a", Kind: api.UDelete, N: 1},
		api.Update{Key: "a", Kind: api.UDelete, S: "x"},
		set("a", least-1),
		set("a", math.MaxInt64),
		add("a", greatest+1),
		add("a", math.MinInt64),
		put("a", text33),
		app("a", text33),
	)
}

// TestRefused is P8.1 and P8.2: an update that may not be is left out, and touches nothing, wherever it stands.
func TestRefused(t *testing.T) {
	for _, u := range refused() {
		holds(t, "alone", nil, nil, of(u))
		holds(t, "alone, open", nil, updates(u))
		holds(t, "in both", nil, updates(u, u), of(u), of(u, u))
		touches(t, "alone", nil, of(u))
		touches(t, "again", nil, of(u, u), of(u))

		want := values{"a": aNumber(3), "b": aText("xy")}
		holds(t, "first", want, nil, of(u, set("a", 3), put("b", "xy")))
		holds(t, "between", want, nil, of(set("a", 1), u, add("a", 2)), of(u), of(put("b", "x"), u, app("b", "y"), u))
		holds(t, "between open ones", want, updates(u, add("a", 2), u, put("b", "xy"), u), of(u, set("a", 1)))
		holds(t, "last", want, updates(u), of(set("a", 3), put("b", "xy"), u))
		touches(t, "between", []string{"b", "c"}, of(u, set("c", 1)), of(u), of(del("b"), u))
		touches(t, "of the same key", []string{"a"}, of(u, set("a", 1), u), of(u, del("a")))
	}
	holds(t, "all of them", values{"a": aText("t")}, refused(), of(refused()...), of(put("a", "t")), of(refused()...))
	touches(t, "all of them", nil, of(refused()...), of(refused()...))
}

// TestOriginAndNumber is P8.1 and P8.2: they play no part, may they be or not, in order or not.
func TestOriginAndNumber(t *testing.T) {
	want := values{"n": aNumber(-2), "t": aText("abc"), "new": aText(""), "m": aNumber(8)}
	for _, origin := range []int{0, -1, 1, 64, 65, math.MaxInt, math.MinInt} {
		for _, number := range []int{0, -1, 1, 1 << 40, 1<<40 + 1, math.MaxInt, math.MinInt} {
			rounds := story()
			for i := range rounds {
				rounds[i].Origin, rounds[i].Number = origin, number
			}
			holds(t, "all alike", want, nil, rounds...)
			touches(t, "all alike", []string{"gone", "m", "n", "new", "t"}, rounds...)
			rounds = story()
			rounds[1].Origin, rounds[1].Number = origin, number
			holds(t, "one of them", want, nil, rounds...)
			touches(t, "one of them", []string{"gone", "m", "n", "new", "t"}, rounds...)
		}
	}
	same := of(add("a", 1))
	holds(t, "the same round again", values{"a": aNumber(3)}, nil, same, same, same)
}

// TestUntouched is P8.3: a key that isn't touched has no value.
func TestUntouched(t *testing.T) {
	rounds := append(story(), of(refused()...))
	touched := Touched(rounds...)
	s := State(nil, rounds...)
	for _, key := range append(slices.Clone(hollow), "a", "N", "n\x00", "ne", "neww", "go") {
		if slices.Contains(touched, key) {
			t.Errorf("%q is touched", key)
		}
		if v := Read(key, nil, rounds...); v != none {
			t.Errorf("Read(%q): %v", key, v)
		}
		if v := s.Get(key); v != none {
			t.Errorf("the State's %q: %v", key, v)
		}
	}
	for _, key := range s.Keys() {
		if !slices.Contains(touched, key) {
			t.Errorf("%q has a value, and isn't touched", key)
		}
	}
}

// TestOthers is P8.3: rounds that touch other keys play no part for what is read.
func TestOthers(t *testing.T) {
	rounds := append(story(), of(refused()...), of(add("n", 1), app("t", "z")), of(del("gone")), of(set("o", 1)))
	open := updates(add("n", 10), app("new", "y"), set("p", 1))
	for _, key := range append([]string{"n", "t", "new", "m", "gone", "o", "p"}, hollow...) {
		var own []api.Round
		for _, r := range rounds {
			if slices.Contains(Touched(r), key) {
				own = append(own, r)
			}
		}
		if a, b := Read(key, open, rounds...), Read(key, open, own...); a != b {
			t.Errorf("Read(%q): %v of all rounds, %v of its own ones", key, a, b)
		}
		mine := slices.DeleteFunc(slices.Clone(open), func(u api.Update) bool { return u.Key != key })
		if a, b := Read(key, open, rounds...), Read(key, mine, own...); a != b {
			t.Errorf("Read(%q): %v of all updates, %v of its own open ones", key, a, b)
		}
	}
	if v := Read("n", open, rounds...); v != aNumber(9) {
		t.Error(v)
	}
}

// roomy is a list with spare room, in which something stands.
func roomy[T any](spare T, l ...T) []T {
	whole := append(slices.Clone(l), spare, spare)
	return whole[:len(l)]
}

// TestHandedIn is rule 5: what was handed in is unchanged behind each call, its spare room too.
func TestHandedIn(t *testing.T) {
	lists := func() ([]api.Update, []api.Round) {
		spare := set("spare", 1)
		var rounds []api.Round
		for _, r := range append(story(), of(refused()...)) {
			r.Updates = roomy(spare, r.Updates...)
			rounds = append(rounds, r)
		}
		open := roomy(spare, append(refused(), add("n", 1), del("t"))...)
		return open, roomy(of(spare), rounds...)
	}
	open, rounds := lists()
	wantOpen, wantRounds := lists()
	unchanged := func(call string) {
		if !slices.Equal(open[:len(open)+2], wantOpen[:len(open)+2]) {
			t.Errorf("%s changed the open updates", call)
		}
		for i, r := range rounds[:len(rounds)+2] {
			w := wantRounds[:len(rounds)+2][i]
			n := len(w.Updates)
			if r.Origin != w.Origin || r.Number != w.Number || len(r.Updates) != n {
				t.Errorf("%s changed round %d", call, i)
			} else if i < len(rounds) && !slices.Equal(r.Updates[:n+2], w.Updates[:n+2]) {
				t.Errorf("%s changed the updates of round %d", call, i)
			}
		}
	}
	Read("n", open, rounds...)
	unchanged("Read")
	s := State(open, rounds...)
	unchanged("State")
	Len(open, rounds...)
	unchanged("Len")
	l := Touched(rounds...)
	unchanged("Touched")
	s.Do(set("n", 100))
	s.Do(del("m"))
	unchanged("a change of the State")
	for i := range l {
		l[i] = "mine"
	}
	unchanged("a change of the list")
}

// TestNotKept is rule 5: what a State tells doesn't hang on the lists that made it, once they are changed.
func TestNotKept(t *testing.T) {
	open, rounds := updates(add("a", 3)), []api.Round{of(add("a", 1), put("b", "x"))}
	s := State(open, rounds...)
	open[0] = set("a", 100)
	rounds[0].Updates[1] = del("b")
	rounds[0] = of()
	holdsState(t, "behind the change", values{"a": aNumber(4), "b": aText("x")}, s)
}

// TestStatesApart is rules 5 and 6: two States of the same rounds know nothing of each other, nor does what is asked later know of them.
func TestStatesApart(t *testing.T) {
	rounds, open := story(), updates(set("open", 1))
	want := values{"n": aNumber(-2), "t": aText("abc"), "new": aText(""), "m": aNumber(8), "open": aNumber(1)}
	a, b := State(open, rounds...), State(open, rounds...)
	for _, key := range a.Keys() {
		a.Do(del(key))
	}
	a.Do(set("mine", 1))
	holdsState(t, "the one", values{"mine": aNumber(1)}, a)
	holdsState(t, "the other one", want, b)
	holds(t, "asked later", want, open, rounds...)
	b.Do(app("t", "d"))
	holdsState(t, "the one again", values{"mine": aNumber(1)}, a)
	empty := State(nil)
	State(nil).Do(set("k", 1))
	holdsState(t, "an empty one", nil, empty)
	holdsState(t, "a later empty one", nil, State(nil))
}

// TestTouchedIsTheCallers is rule 5: each list that Touched tells is new.
func TestTouchedIsTheCallers(t *testing.T) {
	rounds := story()
	want := []string{"gone", "m", "n", "new", "t"}
	a, b := Touched(rounds...), Touched(rounds...)
	for i := range a {
		a[i] = "mine"
	}
	_ = append(a[:1], "mine too")
	if !slices.Equal(b, want) {
		t.Errorf("the other list: %q", b)
	}
	touches(t, "later", want, rounds...)
}

// loose is a text whose bytes are changed later, which shows who keeps it.
func loose(s string) (string, []byte) {
	b := []byte(s)
	return unsafe.String(&b[0], len(b)), b
}

// TestTextsAreNew is rule 5: no text of an answer is a piece of one that was handed in.
func TestTextsAreNew(t *testing.T) {
	key, keyBytes := loose("key")
	text, textBytes := loose("text")
	open, openBytes := loose("open")
	rounds := []api.Round{of(put(key, text))}
	opens := updates(put("o", open))
	read, readOpen := Read("key", nil, rounds...), Read("o", opens, rounds...)
	s := State(opens, rounds...)
	l := Touched(rounds...)
	for _, b := range [][]byte{keyBytes, textBytes, openBytes} {
		copy(b, "!!!!")
	}
	if read != aText("text") || readOpen != aText("open") {
		t.Errorf("Read: %v, %v", read, readOpen)
	}
	holdsState(t, "State", values{"key": aText("text"), "o": aText("open")}, s)
	if !slices.Equal(s.Keys(), []string{"key", "o"}) {
		t.Errorf("Keys: %q", s.Keys())
	}
	if !slices.Equal(l, []string{"key"}) {
		t.Errorf("Touched: %q", l)
	}
}
