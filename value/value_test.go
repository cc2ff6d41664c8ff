package value

import (
	"math"
	"slices"
	"strings"
	"testing"
	"unsafe"

	"chapbook/api"
)

var none = api.Value{}

// aNumber and aText make values.
func aNumber(n int64) api.Value { return api.Value{Kind: api.VNumber, N: n} }
func aText(s string) api.Value  { return api.Value{Kind: api.VText, S: s} }

// set, put, add, app and del make updates of a key k.
func set(n int64) api.Update  { return api.Update{Key: "k", Kind: api.USet, N: n} }
func put(s string) api.Update { return api.Update{Key: "k", Kind: api.UText, S: s} }
func add(n int64) api.Update  { return api.Update{Key: "k", Kind: api.UAdd, N: n} }
func app(s string) api.Update { return api.Update{Key: "k", Kind: api.UAppend, S: s} }
func del() api.Update         { return api.Update{Key: "k", Kind: api.UDelete} }

// valuesOfAll: values of all three Kinds, edges among them.
func valuesOfAll() []api.Value {
	return []api.Value{
		none,
		aNumber(0), aNumber(7), aNumber(-7), aNumber(math.MaxInt64), aNumber(math.MinInt64),
		aText(""), aText("ab"), aText("a\x00\xff"), aText(strings.Repeat("t", 1023)), aText(strings.Repeat("t", 1024)), aText(strings.Repeat("t", 3000)),
	}
}

// updatesOfAll: updates of all Kinds, some that may not be among them.
func updatesOfAll() []api.Update {
	return []api.Update{
		set(0), set(5), set(-5), set(math.MaxInt64), set(math.MinInt64),
		put(""), put("x"), put(strings.Repeat("x", 1025)),
		add(0), add(1), add(-1), add(math.MaxInt64), add(math.MinInt64),
		app(""), app("y"), app(strings.Repeat("y", 32)), app(strings.Repeat("y", 2000)),
		del(),
		{Key: "k"}, {Key: "k", Kind: 6, N: 3, S: "z"}, {Key: "k", Kind: -1}, {Key: "k", Kind: math.MaxInt}, {Key: "k", Kind: math.MinInt},
		{}, {Kind: api.USet, N: 9, S: "stray"}, {Kind: api.UText, N: 9, S: "s"}, {Kind: api.UAdd, N: 9, S: "stray"}, {Kind: api.UAppend, N: 9, S: "s"}, {Kind: api.UDelete, N: 9, S: "stray"},
	}
}

// TestApplyTable is P4.1: each Kind of update on each Kind of value, as the chapter's table says.
func TestApplyTable(t *testing.T) {
	for _, c := range []struct {
		name string
		v    api.Value
		u    api.Update
		want api.Value
	}{
		{"set none", none, set(5), aNumber(5)},
		{"set none to 0", none, set(0), aNumber(0)},
		{"set number", aNumber(3), set(5), aNumber(5)},
		{"set text", aText("a"), set(-5), aNumber(-5)},
		{"text of none", none, put("x"), aText("x")},
		{"empty text of none", none, put(""), aText("")},
		{"text of number", aNumber(3), put("x"), aText("x")},
		{"text of text", aText("a"), put("x"), aText("x")},
		{"add to none", none, add(3), aNumber(3)},
		{"add 0 to none", none, add(0), aNumber(0)},
		{"add to number", aNumber(3), add(4), aNumber(7)},
		{"add less to number", aNumber(3), add(-4), aNumber(-1)},
		{"add to text", aText("a"), add(4), aText("a")},
		{"add to text of digits", aText("3"), add(4), aText("3")},
		{"append to none", none, app("x"), aText("x")},
		{"append nothing to none", none, app(""), aText("")},
		{"append to number", aNumber(7), app("x"), aNumber(7)},
		{"append to text", aText("a"), app("b"), aText("ab")},
		{"append nothing to text", aText("a"), app(""), aText("a")},
		{"append bytes", aText("\xff\x00"), app("\x00\xfe"), aText("\xff\x00\x00\xfe")},
		{"delete none", none, del(), none},
		{"delete number", aNumber(7), del(), none},
		{"delete text", aText("a"), del(), none},
	} {
		if got := Apply(c.v, c.u); got != c.want {
			t.Errorf("%s: %v, not %v", c.name, got, c.want)
		}
	}
}

// TestApplySums is P4.1: a sum goes round modulo 2^64, beyond the greatest and beyond the least number.
func TestApplySums(t *testing.T) {
	for _, c := range []struct{ a, b, want int64 }{
		{math.MaxInt64, 1, math.MinInt64},
		{math.MinInt64, -1, math.MaxInt64},
		{math.MaxInt64, math.MaxInt64, -2},
		{math.MinInt64, math.MinInt64, 0},
		{math.MinInt64, math.MaxInt64, -1},
		{math.MaxInt64 - 1, 1, math.MaxInt64},
		{math.MinInt64 + 1, -1, math.MinInt64},
		{math.MaxInt64, 1<<61 - 1, math.MinInt64 + 1<<61 - 2},
		{math.MinInt64, -1 << 61, math.MaxInt64 - 1<<61 + 1},
		{math.MaxInt64, 0, math.MaxInt64},
	} {
		if got := Apply(aNumber(c.a), add(c.b)); got != aNumber(c.want) {
			t.Errorf("%d and %d: %v, not %d", c.a, c.b, got, c.want)
		}
	}
}

// TestApplyLongTexts is P4.1: a text grows to 1024 bytes and no further, but stands as it is if an update brings it whole.
func TestApplyLongTexts(t *testing.T) {
	full := strings.Repeat("t", 1024)
	huge := strings.Repeat("h", 5000)
	for _, c := range []struct {
		name string
		v    api.Value
		u    api.Update
		want api.Value
	}{
		{"to just 1024", aText(full[:1000]), app(full[:24]), aText(full)},
		{"to 1025", aText(full[:1000]), app(full[:25]), aText(full[:1000])},
		{"one byte to 1024", aText(full[:1023]), app("t"), aText(full)},
		{"one byte behind 1024", aText(full), app("t"), aText(full)},
		{"nothing behind 1024", aText(full), app(""), aText(full)},
		{"1024 behind nothing", aText(""), app(full), aText(full)},
		{"1025 behind nothing", aText(""), app(full + "t"), aText("")},
		{"nothing behind more than 1024", aText(huge), app(""), aText(huge)},
		{"one byte behind more than 1024", aText(huge), app("x"), aText(huge)},
		{"more than 1024 by UText, of none", none, put(huge), aText(huge)},
		{"more than 1024 by UText, of a number", aNumber(3), put(huge), aText(huge)},
		{"more than 1024 by UText, of a text", aText("a"), put(huge), aText(huge)},
		{"1025 by UText", aText("a"), put(full + "t"), aText(full + "t")},
		{"more than 1024 by UAppend, of none", none, app(huge), aText(huge)},
		{"1025 by UAppend, of none", none, app(full + "t"), aText(full + "t")},
		{"more than 1024 by UAppend, of a number", aNumber(3), app(huge), aNumber(3)},
		{"more than 1024 by UAppend, of a text", aText("a"), app(huge), aText("a")},
	} {
		if got := Apply(c.v, c.u); got != c.want {
			t.Errorf("%s: %d bytes of Kind %d, not %d of Kind %d", c.name, len(got.S), got.Kind, len(c.want.S), c.want.Kind)
		}
	}
}

// TestApplyAllTheSame is P4.1: neither the Key nor whether the update may be plays a part; of another Kind the value stays.
func TestApplyAllTheSame(t *testing.T) {
	for _, kind := range []int{0, 6, 9, -1, -5, 256 + api.USet, math.MaxInt, math.MinInt} {
		for _, v := range valuesOfAll() {
			u := api.Update{Key: "k", Kind: kind, N: 4, S: "s"}
			if got := Apply(v, u); got != v {
				t.Errorf("Kind %d on %v: %v", kind, v, got)
			}
		}
	}
	for _, key := range []string{"", "other", strings.Repeat("k", 17), "\x00"} {
		for _, u := range updatesOfAll() {
			for _, v := range valuesOfAll() {
				other := u
				other.Key = key
				if got, want := Apply(v, other), Apply(v, u); got != want {
					t.Errorf("key %q, %v on %v: %v, not %v", key, u, v, got, want)
				}
			}
		}
	}
	for _, c := range []struct {
		v    api.Value
		u    api.Update
		want api.Value
	}{
		{aText("a"), set(1 << 61), aNumber(1 << 61)},
		{aNumber(1), add(1 << 62), aNumber(1<<62 + 1)},
		{aNumber(1), add(math.MinInt64), aNumber(math.MinInt64 + 1)},
		{none, put(strings.Repeat("x", 33)), aText(strings.Repeat("x", 33))},
		{aText("a"), app(strings.Repeat("x", 33)), aText("a" + strings.Repeat("x", 33))},
		{aText("a"), api.Update{Kind: api.USet, N: 5, S: "stray"}, aNumber(5)},
		{aNumber(2), api.Update{Kind: api.UText, N: 5, S: "x"}, aText("x")},
		{aNumber(2), api.Update{Kind: api.UAdd, N: 5, S: "stray"}, aNumber(7)},
		{none, api.Update{Kind: api.UAppend, N: 5, S: "x"}, aText("x")},
		{aText("a"), api.Update{Kind: api.UAppend, N: 5, S: "x"}, aText("ax")},
		{aText("a"), api.Update{Kind: api.UDelete, N: 5, S: "stray"}, none},
	} {
		if got := Apply(c.v, c.u); got != c.want {
			t.Errorf("%v on %v: %v, not %v", c.u, c.v, got, c.want)
		}
	}
}

// TestApplyStrayFields is P4.1: what a value's Kind hasn't plays no part, not even where the value stays the same.
func TestApplyStrayFields(t *testing.T) {
	for _, v := range valuesOfAll() {
		stray := v
		if v.Kind != api.VNumber {
			stray.N = 11
		}
		if v.Kind != api.VText {
			stray.S = "stray"
		}
		for _, u := range updatesOfAll() {
			if got, want := Apply(stray, u), Apply(v, u); got != want {
				t.Errorf("%v on %v: %v, not %v", u, stray, got, want)
			}
			if got, want := All(stray, u, add(1), app("x")), All(v, u, add(1), app("x")); got != want {
				t.Errorf("%v and more on %v: %v, not %v", u, stray, got, want)
			}
		}
	}
}

// TestApplyMakesValues is P4.1: what comes of an update is a value: of one of the three Kinds, and what its Kind hasn't is zero.
func TestApplyMakesValues(t *testing.T) {
	for _, v := range valuesOfAll() {
		for _, u := range updatesOfAll() {
			switch got := Apply(v, u); got.Kind {
			case api.VNone:
				if got != none {
					t.Errorf("%v on %v: none with fields: %v", u, v, got)
				}
			case api.VNumber:
				if got.S != "" {
					t.Errorf("%v on %v: a number with a text: %v", u, v, got)
				}
			case api.VText:
				if got.N != 0 {
					t.Errorf("%v on %v: a text with a number: %v", u, v, got)
				}
			default:
				t.Errorf("%v on %v: Kind %d", u, v, got.Kind)
			}
		}
	}
}

// TestAllExamples is P4.1: the chapter's examples, step by step and at once.
func TestAllExamples(t *testing.T) {
	v := All(none, add(3), add(4))
	if v != aNumber(7) {
		t.Error("3 and 4:", v)
	}
	if v = All(v, app("x")); v != aNumber(7) {
		t.Error("x behind 7:", v)
	}
	if v = All(v, put("a"), app("b")); v != aText("ab") {
		t.Error("a, then b:", v)
	}
	if v = All(none, add(3), add(4), app("x"), put("a"), app("b")); v != aText("ab") {
		t.Error("at once:", v)
	}
}

// TestAllWithoutUpdates is P4.1: without updates v comes back unchanged, in every field.
func TestAllWithoutUpdates(t *testing.T) {
	odd := []api.Value{{Kind: api.VNumber, N: 3, S: "stray"}, {Kind: api.VText, N: 3, S: "s"}, {N: 3, S: "stray"}, {Kind: 7, N: 3, S: "s"}, {Kind: -1}}
	for _, v := range slices.Concat(valuesOfAll(), odd) {
		if All(v) != v || All(v, nil...) != v || All(v, []api.Update{}...) != v {
			t.Errorf("%v changed", v)
		}
	}
}

// TestAllOneByOne is P4.1: All is Apply, one update after the other from the left, wherever the list is cut.
func TestAllOneByOne(t *testing.T) {
	us := updatesOfAll()
	for _, v := range valuesOfAll() {
		for i, a := range us {
			for j, b := range us {
				c := us[(i*7+j)%len(us)]
				want := Apply(Apply(Apply(v, a), b), c)
				if got := All(v, a, b, c); got != want {
					t.Fatalf("%v, %v, %v on %v: %v, not %v", a, b, c, v, got, want)
				}
				if got := All(All(v, a), b, c); got != want {
					t.Fatalf("%v then %v, %v on %v: %v, not %v", a, b, c, v, got, want)
				}
			}
		}
	}
	grown := All(aText(""), slices.Repeat([]api.Update{app("abc")}, 1000)...)
	if want := aText(strings.Repeat("abc", 341)); grown != want {
		t.Errorf("1000 times abc: %d bytes, not %d", len(grown.S), len(want.S))
	}
	if v := All(none, set(1), del(), add(2), app("x"), del(), app("y"), add(1), app("z")); v != aText("yz") {
		t.Error("a mixed list:", v)
	}
}

// TestAnUnknownValue: of a value of another Kind nothing is promised, but that the call ends without a panic (rule 1).
func TestAnUnknownValue(t *testing.T) {
	for _, kind := range []int{3, -1, math.MaxInt, math.MinInt} {
		for _, u := range updatesOfAll() {
			Apply(api.Value{Kind: kind, N: 1, S: "s"}, u)
		}
	}
}

// TestMay is P4.2: each Kind at its edges.
func TestMay(t *testing.T) {
	key := func(n int) string { return strings.Repeat("k", n) }
	piece := func(n int) string { return strings.Repeat("s", n) }
	for _, c := range []struct {
		name string
		u    api.Update
		want api.Errno
	}{
		{"set", set(5), api.OK},
		{"text", put("x"), api.OK},
		{"add", add(-5), api.OK},
		{"append", app("x"), api.OK},
		{"delete", del(), api.OK},
		{"set 0", set(0), api.OK},
		{"add 0", add(0), api.OK},
		{"no text", put(""), api.OK},
		{"append nothing", app(""), api.OK},
		{"key of 1", api.Update{Key: key(1), Kind: api.UDelete}, api.OK},
		{"key of 16", api.Update{Key: key(16), Kind: api.UDelete}, api.OK},
		{"key of 0", api.Update{Key: key(0), Kind: api.UDelete}, api.ErrRange},
		{"key of 17", api.Update{Key: key(17), Kind: api.UDelete}, api.ErrRange},
		{"key of 16 bytes, 8 letters", api.Update{Key: strings.Repeat("ß", 8), Kind: api.UDelete}, api.OK},
		{"key of 18 bytes, 9 letters", api.Update{Key: strings.Repeat("ß", 9), Kind: api.UDelete}, api.ErrRange},
		{"key of any bytes", api.Update{Key: "\x00\xff \n", Kind: api.UDelete}, api.OK},
		{"set least", set(-1 << 61), api.OK},
		{"set below least", set(-1<<61 - 1), api.ErrRange},
		{"set greatest", set(1<<61 - 1), api.OK},
		{"set above greatest", set(1 << 61), api.ErrRange},
		{"set far below", set(math.MinInt64), api.ErrRange},
		{"set far above", set(math.MaxInt64), api.ErrRange},
		{"add least", add(-1 << 61), api.OK},
		{"add below least", add(-1<<61 - 1), api.ErrRange},
		{"add greatest", add(1<<61 - 1), api.OK},
		{"add above greatest", add(1 << 61), api.ErrRange},
		{"add far below", add(math.MinInt64), api.ErrRange},
		{"add far above", add(math.MaxInt64), api.ErrRange},
		{"text of 32", put(piece(32)), api.OK},
		{"text of 33", put(piece(33)), api.ErrRange},
		{"text of 32 bytes, 16 letters", put(strings.Repeat("ß", 16)), api.OK},
		{"text of 34 bytes, 17 letters", put(strings.Repeat("ß", 17)), api.ErrRange},
		{"append 32", app(piece(32)), api.OK},
		{"append 33", app(piece(33)), api.ErrRange},
		{"append far more", app(piece(5000)), api.ErrRange},
	} {
		if got := May(c.u); got != c.want {
			t.Errorf("%s: %d, not %d", c.name, got, c.want)
		}
	}
}

// TestMayKinds is P4.2: just the five Kinds may be.
func TestMayKinds(t *testing.T) {
	for kind := -300; kind <= 300; kind++ {
		want := api.ErrKind
		if kind >= 1 && kind <= 5 {
			want = api.OK
		}
		if got := May(api.Update{Key: "k", Kind: kind}); got != want {
			t.Errorf("Kind %d: %d, not %d", kind, got, want)
		}
	}
	for _, kind := range []int{math.MaxInt, math.MinInt, 1<<32 + api.USet} {
		if got := May(api.Update{Key: "k", Kind: kind}); got != api.ErrKind {
			t.Errorf("Kind %d: %d", kind, got)
		}
	}
}

// TestMayForm is P4.2: a field that the Kind hasn't must be zero.
func TestMayForm(t *testing.T) {
	for _, c := range []struct {
		kind int
		n, s bool // which fields it has
	}{{api.USet, true, false}, {api.UText, false, true}, {api.UAdd, true, false}, {api.UAppend, false, true}, {api.UDelete, false, false}} {
		for _, n := range []int64{0, 1, -1, 1<<61 - 1, math.MaxInt64, math.MinInt64} {
			for _, s := range []string{"", "\x00", "s", strings.Repeat("s", 32), strings.Repeat("s", 33)} {
				want := api.OK
				switch {
				case !c.n && n != 0, !c.s && s != "":
					want = api.ErrForm
				case n > 1<<61-1, n < -1<<61, len(s) > 32:
					want = api.ErrRange
				}
				if got := May(api.Update{Key: "k", Kind: c.kind, N: n, S: s}); got != want {
					t.Errorf("Kind %d, N %d, %d bytes: %d, not %d", c.kind, n, len(s), got, want)
				}
			}
		}
	}
}

// TestMayTellsTheFirst is P4.2: of several faults the one that the chapter names first is told.
func TestMayTellsTheFirst(t *testing.T) {
	long := strings.Repeat("s", 33)
	for _, key := range []string{"", strings.Repeat("k", 17)} {
		for _, u := range []api.Update{{}, {Kind: 6}, {Kind: -1, N: 1 << 61, S: long}, {Kind: api.USet, S: "s"}, {Kind: api.UText, N: 1}, {Kind: api.UDelete, N: 1, S: "s"}, {Kind: api.UAdd, N: 1 << 61}, {Kind: api.USet}} {
			u.Key = key
			if got := May(u); got != api.ErrRange {
				t.Errorf("%v: %d, not ErrRange", u, got)
			}
		}
	}
	for _, kind := range []int{0, 6, 9, -1} {
		if got := May(api.Update{Key: "k", Kind: kind, N: 1 << 61, S: long}); got != api.ErrKind {
			t.Errorf("Kind %d with both fields: %d, not ErrKind", kind, got)
		}
	}
	for _, kind := range []int{api.USet, api.UText, api.UAdd, api.UAppend, api.UDelete} {
		if got := May(api.Update{Key: "k", Kind: kind, N: 1 << 61, S: long}); got != api.ErrForm {
			t.Errorf("Kind %d with both fields beyond: %d, not ErrForm", kind, got)
		}
	}
}

// TestNothingAhead is P4.3: behind USet, UText and UDelete nothing hangs on what was ahead.
func TestNothingAhead(t *testing.T) {
	for _, last := range []api.Update{set(4), put("t"), put(""), del()} {
		for _, rest := range [][]api.Update{nil, {add(1)}, {app("x")}, {add(1), app("x"), add(2)}} {
			want := All(none, append([]api.Update{last}, rest...)...)
			for _, v := range valuesOfAll() {
				for _, ahead := range updatesOfAll() {
					if got := All(v, append([]api.Update{ahead, last}, rest...)...); got != want {
						t.Errorf("%v, then %v on %v: %v, not %v", ahead, last, v, got, want)
					}
				}
			}
		}
	}
}

// TestAddsInAnyOrder is P4.3: adds come to the same in any order, sums beyond the edges among them.
func TestAddsInAnyOrder(t *testing.T) {
	adds := []api.Update{add(1), add(-3), add(math.MaxInt64), add(1<<61 - 1), add(math.MinInt64)}
	for _, v := range valuesOfAll() {
		want := All(v, adds...)
		orders(adds, len(adds), func(l []api.Update) {
			if got := All(v, l...); got != want {
				t.Errorf("%v on %v: %v, not %v", l, v, got, want)
			}
		})
	}
	if got := All(none, adds...); got != aNumber(1-3+math.MaxInt64+1<<61-1+math.MinInt64) {
		t.Error("the sum:", got)
	}
}

// orders calls f with each order of the first n of l.
func orders(l []api.Update, n int, f func([]api.Update)) {
	if n <= 1 {
		f(l)
		return
	}
	for i := range n {
		l[i], l[n-1] = l[n-1], l[i]
		orders(l, n-1, f)
		l[i], l[n-1] = l[n-1], l[i]
	}
}

// TestListUntouched is rule 5: the list handed in stays as it is, its spare room too.
func TestListUntouched(t *testing.T) {
	l := make([]api.Update, 3, 6)
	copy(l[:6], []api.Update{put("a"), app("b"), app("c"), set(1), set(2), set(3)})
	before := slices.Clone(l[:6])
	if got := All(none, l...); got != aText("abc") {
		t.Error("made:", got)
	}
	if !slices.Equal(l[:6], before) {
		t.Error("changed:", l[:6])
	}
}

// TestAnswerIsNew is rule 5: the text of an answer is no one's that was handed in.
func TestAnswerIsNew(t *testing.T) {
	s, p := strings.Clone("some text"), strings.Clone("a piece")
	for name, got := range map[string]api.Value{
		"without updates":      All(aText(s)),
		"the same, UAdd":       Apply(aText(s), add(1)),
		"the same, Kind 9":     Apply(aText(s), api.Update{Kind: 9}),
		"the same, too long":   Apply(aText(s), app(strings.Repeat("y", 1020))),
		"UText":                Apply(aText(s), put(p)),
		"UAppend of none":      Apply(none, app(p)),
		"nothing behind it":    Apply(aText(s), app("")),
		"it behind nothing":    Apply(aText(""), app(p)),
		"through some updates": All(none, del(), put(p), add(1), app("")),
	} {
		if got.Kind != api.VText || got.S == "" {
			t.Errorf("%s: %v", name, got)
			continue
		}
		if d := unsafe.StringData(got.S); d == unsafe.StringData(s) || d == unsafe.StringData(p) {
			t.Errorf("%s: the text is shared", name)
		}
	}
}
