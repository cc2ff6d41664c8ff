package store

import (
	"math"
	"slices"
	"strings"
	"testing"
	"unsafe"

	"chapbook/api"
	"chapbook/value"
)

var none = api.Value{}

// aNumber and aText make values.
func aNumber(n int64) api.Value { return api.Value{Kind: api.VNumber, N: n} }
func aText(s string) api.Value  { return api.Value{Kind: api.VText, S: s} }

// set, put, add, app and del make updates.
func set(key string, n int64) api.Update { return api.Update{Key: key, Kind: api.USet, N: n} }
func put(key, s string) api.Update       { return api.Update{Key: key, Kind: api.UText, S: s} }
func add(key string, n int64) api.Update { return api.Update{Key: key, Kind: api.UAdd, N: n} }
func app(key, s string) api.Update       { return api.Update{Key: key, Kind: api.UAppend, S: s} }
func del(key string) api.Update          { return api.Update{Key: key, Kind: api.UDelete} }

// done is a store behind updates that may be.
func done(t *testing.T, l ...api.Update) *Store {
	t.Helper()
	s := New()
	do(t, s, l...)
	return s
}

// do does updates that may be.
func do(t *testing.T, s *Store, l ...api.Update) {
	t.Helper()
	for _, u := range l {
		if e := s.Do(u); e != api.OK {
			t.Fatalf("%v: error %d", u, e)
		}
	}
}

// holds looks whether a store has just these values, by Len, Keys and Get.
func holds(t *testing.T, name string, s *Store, want map[string]api.Value) {
	t.Helper()
	if n := s.Len(); n != len(want) {
		t.Errorf("%s: Len %d, not %d", name, n, len(want))
	}
	keys := []string{}
	for key := range want {
		keys = append(keys, key)
	}
	slices.SortFunc(keys, byBytes)
	if l := s.Keys(); !slices.Equal(l, keys) {
		t.Errorf("%s: Keys %q, not %q", name, l, keys)
	}
	for key, v := range want {
		if got := s.Get(key); got != v {
			t.Errorf("%s: Get(%q) %v, not %v", name, key, got, v)
		}
	}
}

// byBytes holds two texts against each other, byte by byte; the one that ends first is less.
func byBytes(a, b string) int {
	for i := 0; i < len(a) && i < len(b); i++ {
		if a[i] != b[i] {
			return int(a[i]) - int(b[i])
		}
	}
	return len(a) - len(b)
}

// TestNew is P5.1 and P5.2: no key has a value, and each New is a store of its own.
func TestNew(t *testing.T) {
	s := New()
	holds(t, "new", s, nil)
	for _, key := range []string{"", "a", strings.Repeat("k", 16), strings.Repeat("k", 17), "\x00", "\xff"} {
		if v := s.Get(key); v != none {
			t.Errorf("Get(%q): %v", key, v)
		}
	}
	other := New()
	do(t, s, set("a", 1))
	holds(t, "the other one", other, nil)
	holds(t, "the one", s, map[string]api.Value{"a": aNumber(1)})
	holds(t, "one made later", New(), nil)
}

// TestExample is the chapter's: USet a 1, UDelete a: Len 0.
func TestExample(t *testing.T) {
	s := done(t, set("a", 1), del("a"))
	if s.Len() != 0 || len(s.Keys()) != 0 || s.Get("a") != none {
		t.Error(s.Len(), s.Keys(), s.Get("a"))
	}
}

// TestOneKey is P5.1: what each Kind of update makes of one key's value, on each Kind of value.
func TestOneKey(t *testing.T) {
	s := New()
	for i, c := range []struct {
		u    api.Update
		want api.Value
	}{
		{del("k"), none},
		{add("k", 3), aNumber(3)},
		{add("k", 4), aNumber(7)},
		{app("k", "x"), aNumber(7)},
		{set("k", -2), aNumber(-2)},
		{add("k", 2), aNumber(0)},
		{put("k", "a"), aText("a")},
		{app("k", "b"), aText("ab")},
		{add("k", 5), aText("ab")},
		{put("k", "\x00\xff"), aText("\x00\xff")},
		{app("k", ""), aText("\x00\xff")},
		{set("k", 9), aNumber(9)},
		{del("k"), none},
		{del("k"), none},
		{app("k", "y"), aText("y")},
		{del("k"), none},
		{put("k", ""), aText("")},
		{app("k", "z"), aText("z")},
		{del("k"), none},
		{set("k", 0), aNumber(0)},
		{del("k"), none},
		{app("k", ""), aText("")},
		{del("k"), none},
		{add("k", 0), aNumber(0)},
	} {
		if e := s.Do(c.u); e != api.OK {
			t.Errorf("%d: error %d", i, e)
		}
		want := map[string]api.Value{"k": c.want}
		if c.want == none {
			want = nil
		}
		holds(t, "one key", s, want)
		if v := s.Get("k"); v != c.want {
			t.Errorf("%d: %v, not %v", i, v, c.want)
		}
	}
}

// TestSeveralKeys is P5.1 to P5.3: each key has its own value, whatever is done to the others in between.
func TestSeveralKeys(t *testing.T) {
	s := New()
	want := map[string]api.Value{}
	for _, c := range []struct {
		u    api.Update
		want api.Value
	}{
		{set("b", 1), aNumber(1)},
		{put("a", "one"), aText("one")},
		{add("c", 5), aNumber(5)},
		{app("a", " two"), aText("one two")},
		{add("b", 10), aNumber(11)},
		{app("c", "x"), aNumber(5)},
		{add("a", 1), aText("one two")},
		{del("b"), none},
		{del("d"), none},
		{app("d", "d"), aText("d")},
		{add("b", 2), aNumber(2)},
		{del("a"), none},
		{set("d", -1), aNumber(-1)},
		{del("c"), none},
		{del("d"), none},
		{del("b"), none},
	} {
		do(t, s, c.u)
		want[c.u.Key] = c.want
		if c.want == none {
			delete(want, c.u.Key)
		}
		holds(t, "several keys", s, want)
		for _, key := range []string{"a", "b", "c", "d", "e"} {
			if v := s.Get(key); v != want[key] {
				t.Errorf("behind %v: Get(%q) %v, not %v", c.u, key, v, want[key])
			}
		}
	}
}

// TestSumsGoRound is P5.1: an add behind others goes round as Apply says, though no update may bring such a number whole.
func TestSumsGoRound(t *testing.T) {
	s := New()
	for range 4 {
		do(t, s, add("k", 1<<61-1))
	}
	holds(t, "below the greatest", s, map[string]api.Value{"k": aNumber(math.MaxInt64 - 3)})
	do(t, s, add("k", 4))
	holds(t, "round", s, map[string]api.Value{"k": aNumber(math.MinInt64)})
	do(t, s, add("k", -1))
	holds(t, "round again", s, map[string]api.Value{"k": aNumber(math.MaxInt64)})
}

// TestGetOfNone is P5.1: a key that never had a value, one whose value was deleted, and keys that no update may have.
func TestGetOfNone(t *testing.T) {
	long := strings.Repeat("k", 16)
	s := done(t, set("a", 1), put("b", "text"), set("gone", 3), put("went", "x"), del("gone"), del("went"), set(long, 4))
	for _, key := range []string{"c", "gone", "went", "", "aa", "\x00", "A", "a\x00", long[:15], long + "k", strings.Repeat("a", 5000)} {
		if v := s.Get(key); v != none {
			t.Errorf("Get(%q): %v", key, v)
		}
	}
	holds(t, "behind the looks", s, map[string]api.Value{"a": aNumber(1), "b": aText("text"), long: aNumber(4)})
}

// TestValueAgain is P5.1 and P5.2: a key that is deleted and gets a value again begins from none.
func TestValueAgain(t *testing.T) {
	for _, c := range []struct {
		name   string
		before []api.Update
		after  api.Update
		want   api.Value
	}{
		{"add behind a number", []api.Update{set("k", 5), del("k")}, add("k", 3), aNumber(3)},
		{"add behind a text", []api.Update{put("k", "t"), del("k")}, add("k", 3), aNumber(3)},
		{"append behind a text", []api.Update{put("k", "t"), del("k")}, app("k", "u"), aText("u")},
		{"append behind a number", []api.Update{set("k", 5), del("k")}, app("k", "u"), aText("u")},
		{"set", []api.Update{set("k", 5), del("k"), del("k")}, set("k", 6), aNumber(6)},
		{"text", []api.Update{set("k", 5), del("k"), del("k")}, put("k", "v"), aText("v")},
		{"the same once more", []api.Update{set("k", 5), del("k")}, set("k", 5), aNumber(5)},
	} {
		s := done(t, c.before...)
		holds(t, c.name+", deleted", s, nil)
		do(t, s, c.after)
		holds(t, c.name, s, map[string]api.Value{"k": c.want})
	}
}

// TestDeleteOfNone is P5.1 and P5.2: it may be, and changes nothing.
func TestDeleteOfNone(t *testing.T) {
	s := New()
	do(t, s, del("k"))
	holds(t, "new", s, nil)
	do(t, s, set("a", 1), del("k"), del("aa"), del("A"))
	holds(t, "with another key", s, map[string]api.Value{"a": aNumber(1)})
}

// TestKeysRising is P5.2: by bytes, the one that begins another one ahead of it, whatever the order of the updates.
func TestKeysRising(t *testing.T) {
	long := strings.Repeat("m", 16)
	rising := []string{
		"\x00", "\x00\x00", "\x00\xff", "\x01", "0", "10", "9", "A", "Z", "a", "a\x00", "aa", "ab", "a\x7f", "a\x80", "b",
		long[:15], long, "n", "\x7f", "\x7f\xff", "\x80", "\xc3\xa9", "\xc3\xbf", "\xe2\x82\xac", "\xff", "\xff\x00", "\xff\xff",
	}
	for _, step := range []int{1, 3, 5, 9, 11, 25, 27} { // each has no divisor with their number in common
		s := New()
		for i := range rising {
			do(t, s, set(rising[i*step%len(rising)], int64(i)))
		}
		for range 20 { // a map's order changes from one look to the next
			if l := s.Keys(); !slices.Equal(l, rising) {
				t.Fatalf("step %d: %q", step, l)
			}
		}
		if s.Len() != len(rising) {
			t.Errorf("step %d: Len %d", step, s.Len())
		}
		for i := range rising {
			if v := s.Get(rising[i*step%len(rising)]); v != aNumber(int64(i)) {
				t.Errorf("step %d: the value of key %q: %v", step, rising[i*step%len(rising)], v)
			}
		}
	}
}

// TestManyKeys is P5.2: all keys of two bytes, then half of them.
func TestManyKeys(t *testing.T) {
	s := New()
	for i := 1<<16 - 1; i >= 0; i-- {
		s.Do(set(string([]byte{byte(i >> 8), byte(i)}), int64(i)))
	}
	for i := 0; i < 1<<16; i += 2 {
		s.Do(del(string([]byte{byte(i >> 8), byte(i)})))
	}
	l := s.Keys()
	if s.Len() != 1<<15 || len(l) != 1<<15 {
		t.Fatal(s.Len(), len(l))
	}
	for i, key := range l {
		n := 2*i + 1
		if key != string([]byte{byte(n >> 8), byte(n)}) || s.Get(key) != aNumber(int64(n)) {
			t.Fatalf("%d: %q, %v", i, key, s.Get(key))
		}
	}
}

// TestLongTexts is P5.1: a text grows to just 1024 bytes and no further.
func TestLongTexts(t *testing.T) {
	s := New()
	piece := strings.Repeat("0123456789abcdef", 2)
	for i := range 31 {
		do(t, s, app("k", piece))
		holds(t, "growing", s, map[string]api.Value{"k": aText(strings.Repeat(piece, i+1))})
	}
	do(t, s, app("k", piece[:31]))
	most := strings.Repeat(piece, 31) + piece[:31]
	holds(t, "1023 bytes", s, map[string]api.Value{"k": aText(most)})
	do(t, s, app("k", "xy"))
	holds(t, "not 1025 bytes", s, map[string]api.Value{"k": aText(most)})
	do(t, s, app("k", "z"))
	holds(t, "1024 bytes", s, map[string]api.Value{"k": aText(most + "z")})
	do(t, s, app("k", "z"), app("k", piece), app("k", ""))
	holds(t, "no more than 1024 bytes", s, map[string]api.Value{"k": aText(most + "z")})
	do(t, s, put("k", ""), app("k", "n"))
	holds(t, "anew", s, map[string]api.Value{"k": aText("n")})
}

// TestMayNot is P5.1 and P5.3: each way in which an update may not be, also several at once; it changes nothing.
func TestMayNot(t *testing.T) {
	key17, text33 := strings.Repeat("k", 17), strings.Repeat("s", 33)
	for _, c := range []struct {
		name string
		u    api.Update
		want api.Errno
	}{
		{"no key", set("", 1), api.ErrRange},
		{"a key of 17 bytes", set(key17, 1), api.ErrRange},
		{"delete of no key", del(""), api.ErrRange},
		{"delete of a key of 17 bytes", del(key17), api.ErrRange},
		{"text of no key", put("", "s"), api.ErrRange},
		{"append to a key of 17 bytes", app(key17, "s"), api.ErrRange},
		{"no Kind", api.Update{Key: "n"}, api.ErrKind},
		{"Kind 6", api.Update{Key: "n", Kind: 6}, api.ErrKind},
		{"Kind -1", api.Update{Key: "t", Kind: -1}, api.ErrKind},
		{"the greatest Kind", api.Update{Key: "t", Kind: math.MaxInt}, api.ErrKind},
		{"the least Kind", api.Update{Key: "new", Kind: math.MinInt}, api.ErrKind},
		{"set with a text", api.Update{Key: "n", Kind: api.USet, N: 1, S: "s"}, api.ErrForm},
		{"add with a text", api.Update{Key: "n", Kind: api.UAdd, N: 1, S: "s"}, api.ErrForm},
		{"text with a number", api.Update{Key: "t", Kind: api.UText, N: 1, S: "s"}, api.ErrForm},
		{"append with a number", api.Update{Key: "t", Kind: api.UAppend, N: -1, S: "s"}, api.ErrForm},
		{"delete with a number", api.Update{Key: "n", Kind: api.UDelete, N: 1}, api.ErrForm},
		{"delete with a text", api.Update{Key: "t", Kind: api.UDelete, S: "s"}, api.ErrForm},
		{"delete with both, of none", api.Update{Key: "new", Kind: api.UDelete, N: 1, S: "s"}, api.ErrForm},
		{"set of too much", set("n", 1<<61), api.ErrRange},
		{"set of too little", set("n", -1<<61-1), api.ErrRange},
		{"add of too much", add("n", math.MaxInt64), api.ErrRange},
		{"add of too little", add("n", math.MinInt64), api.ErrRange},
		{"add of too much to a text", add("t", 1<<61), api.ErrRange},
		{"add of too much to none", add("new", 1<<61), api.ErrRange},
		{"text of 33 bytes", put("t", text33), api.ErrRange},
		{"append of 33 bytes", app("t", text33), api.ErrRange},
		{"append of 33 bytes to a number", app("n", text33), api.ErrRange},
		{"append of 33 bytes to none", app("new", text33), api.ErrRange},
		{"no key, no Kind", api.Update{N: 1 << 62, S: text33}, api.ErrRange},
		{"a key of 17 bytes, Kind 9", api.Update{Key: key17, Kind: 9, S: "s"}, api.ErrRange},
		{"no key, a text at a set", api.Update{Kind: api.USet, S: "s"}, api.ErrRange},
		{"Kind 9, all fields wrong", api.Update{Key: "n", Kind: 9, N: 1 << 62, S: text33}, api.ErrKind},
		{"a text at a set of too much", api.Update{Key: "n", Kind: api.USet, N: 1 << 61, S: "s"}, api.ErrForm},
		{"a number at a text of 33 bytes", api.Update{Key: "t", Kind: api.UText, N: 1, S: text33}, api.ErrForm},
	} {
		before := map[string]api.Value{"n": aNumber(7), "t": aText("text"), key17[:16]: aText("")}
		s := done(t, set("n", 7), put("t", "text"), put(key17[:16], ""))
		if e := s.Do(c.u); e != c.want || e != value.May(c.u) {
			t.Errorf("%s: error %d, not %d", c.name, e, c.want)
		}
		holds(t, c.name, s, before)
		for _, key := range []string{"", key17, "new"} {
			if v := s.Get(key); v != none {
				t.Errorf("%s: Get(%q) %v", c.name, key, v)
			}
		}
		fresh := New()
		fresh.Do(c.u)
		holds(t, c.name+", of a new store", fresh, nil)
	}
}

// TestMayJust is P5.1: the edges at which an update still may be.
func TestMayJust(t *testing.T) {
	key16, text32 := strings.Repeat("k", 16), strings.Repeat("s", 32)
	s := done(t, set("a", 1<<61-1), set(key16, -1<<61), put("b", text32), app("c", text32), app("c", text32), add("d", -1<<61))
	holds(t, "edges", s, map[string]api.Value{
		"a": aNumber(1<<61 - 1), key16: aNumber(-1 << 61), "b": aText(text32), "c": aText(text32 + text32), "d": aNumber(-1 << 61),
	})
	do(t, s, del("a"), del(key16))
	holds(t, "edges, two deleted", s, map[string]api.Value{"b": aText(text32), "c": aText(text32 + text32), "d": aNumber(-1 << 61)})
}

// TestCopy is P5.2: a copy has the same values, and they know nothing of each other.
func TestCopy(t *testing.T) {
	s := done(t, set("n", 1), put("t", "a"), set("gone", 2))
	c := s.Copy()
	both := map[string]api.Value{"n": aNumber(1), "t": aText("a"), "gone": aNumber(2)}
	holds(t, "first", s, both)
	holds(t, "copy", c, both)
	do(t, s, add("n", 5), app("t", "b"), del("gone"), set("ofs", 3))
	first := map[string]api.Value{"n": aNumber(6), "t": aText("ab"), "ofs": aNumber(3)}
	holds(t, "first, changed", s, first)
	holds(t, "copy, first changed", c, both)
	do(t, c, add("n", -5), app("t", "c"), set("ofc", 4), del("ofs"))
	copied := map[string]api.Value{"n": aNumber(-4), "t": aText("ac"), "gone": aNumber(2), "ofc": aNumber(4)}
	holds(t, "copy, changed", c, copied)
	holds(t, "first, copy changed", s, first)
	if e := c.Do(api.Update{Key: "n", Kind: 9}); e != api.ErrKind {
		t.Errorf("a copy's error: %d", e)
	}
	do(t, c, del("n"), del("t"), del("gone"), del("ofc"))
	holds(t, "copy, emptied", c, nil)
	holds(t, "first, copy emptied", s, first)
}

// TestCopyOfCopy is P5.2: three stores, each changed behind the others.
func TestCopyOfCopy(t *testing.T) {
	s := done(t, put("t", "0"))
	c := s.Copy()
	do(t, c, app("t", "1"))
	d := c.Copy()
	do(t, d, app("t", "2"))
	do(t, c, set("c", 1))
	do(t, s, del("t"))
	holds(t, "first", s, nil)
	holds(t, "copy", c, map[string]api.Value{"t": aText("01"), "c": aNumber(1)})
	holds(t, "copy of copy", d, map[string]api.Value{"t": aText("012")})
	again := s.Copy()
	holds(t, "later copy", again, nil)
	holds(t, "copy of the later copy", again.Copy(), nil)
}

// TestCopyOfNew is P5.2: both take updates.
func TestCopyOfNew(t *testing.T) {
	s := New()
	c := s.Copy()
	holds(t, "copy", c, nil)
	do(t, c, set("a", 1))
	holds(t, "first", s, nil)
	do(t, s, put("b", "x"))
	holds(t, "first", s, map[string]api.Value{"b": aText("x")})
	holds(t, "copy", c, map[string]api.Value{"a": aNumber(1)})
}

// TestKeysToldAreTheCallers is P5.2: changing what was told changes neither the store nor what is told next, nor a copy's.
func TestKeysToldAreTheCallers(t *testing.T) {
	s := done(t, set("a", 1), set("b", 2), set("c", 3))
	c := s.Copy()
	want := map[string]api.Value{"a": aNumber(1), "b": aNumber(2), "c": aNumber(3)}
	l, m := s.Keys(), s.Keys()
	l[0], l[1] = "z", ""
	_ = append(l[:1], "x", "y", "z")
	if !slices.Equal(m, []string{"a", "b", "c"}) {
		t.Errorf("two lists share: %q", m)
	}
	holds(t, "list changed", s, want)
	holds(t, "list changed, copy", c, want)
	do(t, s, del("a"), set("d", 4))
	if !slices.Equal(m, []string{"a", "b", "c"}) {
		t.Errorf("a list follows the store: %q", m)
	}
}

// TestOneKeyNothingToOthers is P5.3: a row of updates of one key comes to the same, whatever row of another key is woven into it.
func TestOneKeyNothingToOthers(t *testing.T) {
	rows := [][]api.Update{
		{set("", 1), add("", 2), put("", "a"), app("", "b"), del("")},
		{put("", "x"), app("", "y"), add("", 1), app("", "z")},
		{del(""), add("", 3), app("", "q"), add("", 4)},
		{app("", ""), del(""), del(""), app("", "r")},
		{},
	}
	of := func(key string, row []api.Update) []api.Update {
		l := slices.Clone(row)
		for i := range l {
			l[i].Key = key
		}
		return l
	}
	for _, keys := range [][2]string{{"k", "kk"}, {"kk", "k"}, {"a", "b"}, {"a", "A"}, {"\x00", "\x00\x00"}, {"\x7f", "\xff"}} {
		for _, one := range rows {
			for _, two := range rows {
				alone := [2]api.Value{done(t, of(keys[0], one)...).Get(keys[0]), done(t, of(keys[1], two)...).Get(keys[1])}
				woven := New()
				for i := range max(len(one), len(two)) {
					do(t, woven, of(keys[0], one[min(i, len(one)):min(i+1, len(one))])...)
					do(t, woven, of(keys[1], two[min(i, len(two)):min(i+1, len(two))])...)
				}
				if got := [2]api.Value{woven.Get(keys[0]), woven.Get(keys[1])}; got != alone {
					t.Errorf("%q, %v and %v: %v, not %v", keys, one, two, got, alone)
				}
			}
		}
	}
}

// TestRowsAgainstApply is P5.1 and P5.2: long mixed rows of few keys, held against Apply key by key.
func TestRowsAgainstApply(t *testing.T) {
	keys := []string{"a", "aa", "b", "\xff", "0123456789abcdef", ""}
	state := uint32(1)
	next := func(n uint32) uint32 {
		state = state*1664525 + 1013904223
		return (state >> 16) % n
	}
	s, want := New(), map[string]api.Value{}
	for i := range 3000 {
		u := api.Update{Key: keys[next(6)], Kind: int(next(7))}
		switch u.Kind {
		case api.USet, api.UAdd:
			u.N = int64(next(100)) - 50
		case api.UText, api.UAppend:
			u.S = strings.Repeat("s", int(next(34)))
		}
		e := value.May(u)
		if e == api.OK {
			want[u.Key] = value.Apply(want[u.Key], u)
			if want[u.Key] == none {
				delete(want, u.Key)
			}
		}
		if got := s.Do(u); got != e {
			t.Fatalf("%d: %v: error %d, not %d", i, u, got, e)
		}
		if i%7 == 0 {
			s = s.Copy()
		}
		holds(t, "mixed row", s, want)
	}
}

// share: have two texts a byte in common?
func share(a, b string) bool {
	if a == "" || b == "" {
		return false
	}
	p, q := uintptr(unsafe.Pointer(unsafe.StringData(a))), uintptr(unsafe.Pointer(unsafe.StringData(b)))
	return p < q+uintptr(len(b)) && q < p+uintptr(len(a))
}

// TestNothingIsKept is P5.1 and P5.2: what was handed in may change afterwards, and what was told shares nothing with it, nor with what is told next.
func TestNothingIsKept(t *testing.T) {
	raw := []byte("keytext")
	text := unsafe.String(&raw[0], len(raw))
	s := done(t, put(text[:3], text[3:]))
	c := s.Copy()
	do(t, s, put(text[:3], text[3:])) // once more: the map has the key already
	copy(raw, "XXXXXXX")
	want := map[string]api.Value{"key": aText("text")}
	holds(t, "bytes changed", s, want)
	holds(t, "bytes changed, copy", c, want)
	for _, x := range []*Store{s, c} {
		if share(x.Get("key").S, text) || share(x.Keys()[0], text) {
			t.Error("an answer shares memory with an argument")
		}
		if share(x.Get("key").S, x.Get("key").S) || share(x.Keys()[0], x.Keys()[0]) {
			t.Error("two answers share memory")
		}
	}
	if share(s.Get("key").S, c.Get("key").S) || share(s.Keys()[0], c.Keys()[0]) {
		t.Error("answers of a store and of its copy share memory")
	}
}
