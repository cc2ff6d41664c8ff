package journal

import (
	"math"
	"slices"
	"strconv"
	"strings"
	"testing"
	"unsafe"

	"chapbook/api"
	"chapbook/round"
)

const (
	maxLast  = 1 << 40  // the greatest last number
	least    = -1 << 61 // of the numbers that an update may have
	greatest = 1<<61 - 1
)

// The edges of an update's texts.
const (
	key16  = "\x00\xff234567890abcde"
	text32 = "\xff234567890123456789012345678901\x00"
	key17  = "12345678901234567"
	text33 = "123456789012345678901234567890123"
)

// set, put, add, app and del make updates.
func set(key string, n int64) api.Update { return api.Update{Key: key, Kind: api.USet, N: n} }
func put(key, s string) api.Update       { return api.Update{Key: key, Kind: api.UText, S: s} }
func add(key string, n int64) api.Update { return api.Update{Key: key, Kind: api.UAdd, N: n} }
func app(key, s string) api.Update       { return api.Update{Key: key, Kind: api.UAppend, S: s} }
func del(key string) api.Update          { return api.Update{Key: key, Kind: api.UDelete} }

// list is updates.
func list(l ...api.Update) []api.Update { return l }

// times: an update, so many times.
func times(u api.Update, n int) []api.Update { return slices.Repeat(list(u), n) }

// of makes a round.
func of(origin, number int, l []api.Update) api.Round {
	return api.Round{Origin: origin, Number: number, Updates: l}
}

// ordinary is the updates that the tests have at a number, other ones at each.
func ordinary(number int) []api.Update {
	return list(add("n", int64(number)), put("key", "text "+strconv.Itoa(number)))
}

// filled is the rounds of an origin, with ordinary updates, from a number up to another one.
func filled(origin, first, last int) []api.Round {
	var l []api.Round
	for n := first; n <= last; n++ {
		l = append(l, of(origin, n, ordinary(n)))
	}
	return l
}

// same tells by its own means whether two rounds are alike.
func same(a, b api.Round) bool {
	return a.Origin == b.Origin && a.Number == b.Number && slices.Equal(a.Updates, b.Updates)
}

// plain is a journal by the tests' own means; what round.May tells of a list, of a round that may be otherwise, it is told.
type plain struct {
	origin, last int
	rounds       []api.Round
}

func (p *plain) add(l []api.Update, ofList api.Errno) (api.Round, api.Errno) {
	switch {
	case len(p.rounds) == p.last:
		return api.Round{}, api.ErrExhausted
	case p.origin < 1 || p.origin > 64:
		return api.Round{}, api.ErrRange
	case ofList != api.OK:
		return api.Round{}, ofList
	}
	r := of(p.origin, len(p.rounds)+1, slices.Clone(l))
	p.rounds = append(p.rounds, r)
	return r, api.OK
}

// above: those of the rounds whose Number is above one.
func above(number int, rounds []api.Round) []api.Round {
	var l []api.Round
	for _, r := range rounds {
		if r.Number > number {
			l = append(l, r)
		}
	}
	return l
}

// adds looks what Add answers.
func adds(t *testing.T, j *Journal, l []api.Update, want api.Round, wantErr api.Errno) {
	t.Helper()
	if r, e := j.Add(l); !same(r, want) || e != wantErr {
		t.Fatalf("Add %.200v: %v %d, not %v %d", l, r, e, want, wantErr)
	}
}

// takes looks whether a journal makes a round of each of the lists, from a number on.
func takes(t *testing.T, j *Journal, origin, first int, lists ...[]api.Update) {
	t.Helper()
	for i, l := range lists {
		adds(t, j, l, of(origin, first+i, l), api.OK)
	}
}

// refuses looks whether Add answers that error, and no round, and changes nothing.
func refuses(t *testing.T, j *Journal, l []api.Update, want api.Errno) {
	t.Helper()
	before := j.From(0)
	adds(t, j, l, api.Round{}, want)
	has(t, "behind a refused list", j, before)
}

// tellsAt looks what At answers.
func tellsAt(t *testing.T, name string, j *Journal, i int, want []api.Round) {
	t.Helper()
	r, ok := j.At(i)
	if i >= 0 && i < len(want) {
		if !ok || !same(r, want[i]) {
			t.Fatalf("%s: At %d: %v %t, not %v", name, i, r, ok, want[i])
		}
	} else if ok || !same(r, api.Round{}) {
		t.Fatalf("%s: At %d of %d: %v %t", name, i, len(want), r, ok)
	}
}

// tellsFrom looks what From answers.
func tellsFrom(t *testing.T, name string, j *Journal, number int, want []api.Round) {
	t.Helper()
	want = above(number, want)
	if l := j.From(number); !slices.EqualFunc(l, want, same) {
		t.Fatalf("%s: From %d: %.300v, not %.300v", name, number, l, want)
	}
}

// has looks whether a journal has just these rounds, by Len, by At of each place, and by From of no number.
func has(t *testing.T, name string, j *Journal, want []api.Round) {
	t.Helper()
	if n := j.Len(); n != len(want) {
		t.Fatalf("%s: Len %d, not %d", name, n, len(want))
	}
	for i := -2; i <= len(want)+2; i++ {
		tellsAt(t, name, j, i, want)
	}
	tellsFrom(t, name, j, 0, want)
}

// hasAll looks that by From of each number, too.
func hasAll(t *testing.T, name string, j *Journal, want []api.Round) {
	t.Helper()
	has(t, name, j, want)
	for number := -2; number <= len(want)+2; number++ {
		tellsFrom(t, name, j, number, want)
	}
}

// made is a journal to which so many ordinary lists were added.
func made(t *testing.T, origin, last, many int) *Journal {
	t.Helper()
	j := New(origin, last)
	for n := 1; n <= many; n++ {
		takes(t, j, origin, n, ordinary(n))
	}
	return j
}

// far are numbers that are at no journal's place and of no journal's round here, with such as would be one, if some of their bits were lost.
func far() []int {
	return []int{math.MaxInt, math.MaxInt - 1, 1 << 62, maxLast, maxLast + 1, maxLast - 1, 1 << 32, 1<<32 + 1, 1<<16 + 1, 1<<31 + 1,
		-1, -2, -256, -1 << 16, -1 << 31, -1 << 32, 1 - 1<<32, -maxLast, -1 << 62, math.MinInt + 2, math.MinInt + 1, math.MinInt}
}

// goodLists: ordinary lists with updates of each Kind, and such as are at the bounds.
func goodLists() [][]api.Update {
	l := [][]api.Update{
		list(del("k")), list(set("a", 3)), list(put("name", "Ann")), list(add("count", -5)), list(app("ab", "xyz")),
		list(set("a", 3), put("name", "Ann"), add("count", -5), app("ab", "xyz"), del("gone")),
		list(del("k"), del("k")), list(set("k", 0), put("k", ""), add("k", 0), app("k", "")),
		list(put(key16, text32)), list(app("\x00", text32), app("\xff", "\x00")), list(del(key16)),
		list(set(key16, least), set("k", greatest), add(key16, least), add("k", greatest)),
		times(app(key16, text32), 8),
	}
	for many := 1; many <= 8; many++ {
		l = append(l, times(set("k", int64(many)), many))
	}
	return l
}

// refused is a list that may not be, and why.
type refused struct {
	l []api.Update
	e api.Errno
}

// badUpdates: updates that may not be, each in a list of its own.
func badUpdates() []refused {
	return []refused{
		{list(api.Update{}), api.ErrRange},
		{list(del("")), api.ErrRange},
		{list(del(key17)), api.ErrRange},
		{list(api.Update{Key: key17, Kind: 9, N: 1, S: text33}), api.ErrRange},
		{list(api.Update{Key: "k"}), api.ErrKind},
		{list(api.Update{Key: "k", Kind: 6}), api.ErrKind},
		{list(api.Update{Key: "k", Kind: -1, N: 1}), api.ErrKind},
		{list(api.Update{Key: "k", Kind: math.MaxInt, S: text33}), api.ErrKind},
		{list(api.Update{Key: "k", Kind: api.USet, S: "x"}), api.ErrForm},
		{list(api.Update{Key: "k", Kind: api.UText, N: 1}), api.ErrForm},
		{list(api.Update{Key: "k", Kind: api.UAdd, N: greatest + 1, S: "x"}), api.ErrForm},
		{list(api.Update{Key: "k", Kind: api.UAppend, N: -1, S: text33}), api.ErrForm},
		{list(api.Update{Key: "k", Kind: api.UDelete, N: 1}), api.ErrForm},
		{list(api.Update{Key: "k", Kind: api.UDelete, S: "x"}), api.ErrForm},
		{list(set("k", least-1)), api.ErrRange},
		{list(set("k", greatest+1)), api.ErrRange},
		{list(add("k", math.MinInt64)), api.ErrRange},
		{list(add("k", math.MaxInt64)), api.ErrRange},
		{list(put("k", text33)), api.ErrRange},
		{list(app("k", text33)), api.ErrRange},
	}
}

// badLists: lists that may not be: no updates, too many, an update that may not be at each place, and several of these at once.
func badLists() []refused {
	formless, unkind := api.Update{Key: "k", Kind: api.UDelete, N: 1}, api.Update{Key: "k", Kind: 6}
	l := []refused{
		{nil, api.ErrRange},
		{list(), api.ErrRange},
		{[]api.Update{}, api.ErrRange},
		{list(unkind, unkind)[:0], api.ErrRange},
		{times(del("k"), 9), api.ErrRange},
		{times(del("k"), 1000), api.ErrRange},
		{times(unkind, 9), api.ErrRange},
		{times(formless, 264), api.ErrRange},
		{list(formless, unkind), api.ErrForm},
		{list(unkind, formless), api.ErrKind},
		{list(unkind, del("")), api.ErrKind},
		{list(del(""), unkind), api.ErrRange},
		{list(del("k"), formless, set("k", 1), unkind, del("")), api.ErrForm},
		{list(del("k"), set("k", 1), del(""), formless, unkind), api.ErrRange},
	}
	for _, x := range badUpdates() {
		for many := 1; many <= 8; many++ {
			for place := range many {
				wrong := times(set("k", 1), many)
				wrong[place] = x.l[0]
				l = append(l, refused{wrong, x.e})
			}
		}
	}
	return l
}

// TestDocumentExample is P13.1 and P13.2: the chapter's.
func TestDocumentExample(t *testing.T) {
	x, y := list(set("x", 1)), list(set("y", 2))
	j := New(1, maxLast)
	adds(t, j, x, of(1, 1, x), api.OK)
	adds(t, j, y, of(1, 2, y), api.OK)
	if l := j.From(1); len(l) != 1 || !same(l[0], of(1, 2, y)) {
		t.Errorf("From 1: %v", l)
	}
	hasAll(t, "the example", j, []api.Round{of(1, 1, x), of(1, 2, y)})
}

// TestNew is P13.1: no rounds, whatever the origin and the last number.
func TestNew(t *testing.T) {
	numbers := append(far(), 0, 1, 2, 63, 64, 65)
	for _, origin := range numbers {
		for _, last := range numbers {
			j := New(origin, last)
			hasAll(t, "new", j, nil)
			for _, n := range numbers {
				tellsAt(t, "new", j, n, nil)
				tellsFrom(t, "new", j, n, nil)
			}
		}
	}
}

// TestGoodLists is P13.1 and P13.2: each becomes the next round, as it is.
func TestGoodLists(t *testing.T) {
	for _, origin := range []int{1, 2, 33, 63, 64} {
		j := New(origin, maxLast)
		var want []api.Round
		for i, l := range goodLists() {
			hasAll(t, "ahead of a list", j, want)
			adds(t, j, l, of(origin, i+1, l), api.OK)
			want = append(want, of(origin, i+1, l))
		}
		hasAll(t, "behind all lists", j, want)
		for _, r := range j.From(0) {
			if e := round.May(r); e != api.OK {
				t.Errorf("%v may not be: %d", r, e)
			}
		}
	}
}

// TestHowMany is P13.1: lists of 1 to 8 updates, and no others.
func TestHowMany(t *testing.T) {
	j := New(1, 99)
	for many := range 30 {
		if l := times(del("k"), many); many >= 1 && many <= 8 {
			takes(t, j, 1, many, l)
		} else {
			refuses(t, j, l, api.ErrRange)
		}
	}
}

// TestLast is P13.1: as many rounds as the last number, and not one more.
func TestLast(t *testing.T) {
	for _, x := range []struct{ last, counts int }{
		{0, 1}, {-1, 1}, {-2, 1}, {-3, 1}, {-maxLast, 1}, {1 - 1<<32, 1}, {2 - 1<<32, 1}, {math.MinInt, 1}, {math.MinInt + 1, 1}, {math.MinInt + 2, 1},
		{1, 1}, {2, 2}, {3, 3}, {8, 8}, {9, 9}, {16, 16}, {17, 17}, {64, 64}, {65, 65}, {257, 257},
	} {
		j := New(7, x.last)
		for n := 1; n <= x.counts; n++ {
			takes(t, j, 7, n, ordinary(n))
		}
		for range 3 {
			refuses(t, j, ordinary(x.counts+1), api.ErrExhausted)
			hasAll(t, "full", j, filled(7, 1, x.counts))
		}
	}
}

// TestGreatLast is P13.1: great last numbers stand as they are, up to 2^40. No test can add so many rounds: the one that is kept is looked at, and Add must hold to it, as the test above has it.
func TestGreatLast(t *testing.T) {
	for _, x := range []struct{ last, counts int }{
		{1 << 16, 1 << 16}, {1 << 31, 1 << 31}, {1 << 32, 1 << 32}, {1<<32 + 1, 1<<32 + 1}, {maxLast - 1, maxLast - 1}, {maxLast, maxLast},
		{maxLast + 1, maxLast}, {maxLast + 2, maxLast}, {2 * maxLast, maxLast}, {1 << 50, maxLast}, {1 << 62, maxLast}, {math.MaxInt - 1, maxLast}, {math.MaxInt, maxLast},
	} {
		j := made(t, 3, x.last, 20)
		hasAll(t, "of a great last number", j, filled(3, 1, 20))
		if j.last != x.counts {
			t.Errorf("last %d counts as %d, not %d", x.last, j.last, x.counts)
		}
	}
}

// TestOrigin is P13.1: origins of 1 to 64, as they are; of others no list makes a round, whatever it is, and however often it comes.
func TestOrigin(t *testing.T) {
	origins := append(far(), 0, 65, 66, 128, 256, 257, 320)
	for origin := 1; origin <= 64; origin++ {
		hasAll(t, "of an origin", made(t, origin, 5, 3), filled(origin, 1, 3))
	}
	for _, origin := range origins {
		for _, last := range []int{0, 1, 2, maxLast} {
			j := New(origin, last)
			for range 3 {
				refuses(t, j, ordinary(1), api.ErrRange)
				refuses(t, j, list(api.Update{Key: "k", Kind: 6}), api.ErrRange)
				refuses(t, j, list(api.Update{Key: "k", Kind: api.UDelete, N: 1}), api.ErrRange)
				refuses(t, j, nil, api.ErrRange)
			}
			hasAll(t, "of a wrong origin", j, nil)
		}
	}
}

// TestBadLists is P13.1: the first error that round.May tells; nothing is there that wasn't, and the next round's Number has no gap.
func TestBadLists(t *testing.T) {
	for many := range 3 {
		for _, x := range badLists() {
			if e := round.May(of(5, many+1, x.l)); e != x.e {
				t.Fatalf("%.200v: round.May tells %d, not %d", x.l, e, x.e)
			}
			j := made(t, 5, 4, many)
			refuses(t, j, x.l, x.e)
			refuses(t, j, x.l, x.e)
			takes(t, j, 5, many+1, ordinary(many+1))
			refuses(t, j, x.l, x.e)
			hasAll(t, "with a bad list", j, filled(5, 1, many+1))
		}
	}
}

// TestNoGap is P13.1: bad lists ahead of each good one, and behind the last.
func TestNoGap(t *testing.T) {
	bad := badLists()
	j := New(64, len(bad)+1)
	for i, x := range bad {
		refuses(t, j, x.l, x.e)
		refuses(t, j, bad[len(bad)-1-i].l, bad[len(bad)-1-i].e)
		takes(t, j, 64, i+1, ordinary(i+1))
	}
	hasAll(t, "with bad lists", j, filled(64, 1, len(bad)))
}

// TestExhaustedIsToldFirst is P13.1: ErrExhausted, ahead of any error of the list.
func TestExhaustedIsToldFirst(t *testing.T) {
	for _, last := range []int{-1, 0, 1, 2, 3, 9} {
		many := max(last, 1)
		j := made(t, 2, last, many-1)
		for _, x := range badLists() {
			refuses(t, j, x.l, x.e)
		}
		takes(t, j, 2, many, ordinary(many))
		for _, x := range badLists() {
			refuses(t, j, x.l, api.ErrExhausted)
		}
		refuses(t, j, ordinary(1), api.ErrExhausted)
		hasAll(t, "full", j, filled(2, 1, many))
	}
}

// TestAt is P13.2: each place, one more, one less, and far ones.
func TestAt(t *testing.T) {
	for many := range 40 {
		j, want := made(t, 9, 99, many), filled(9, 1, many)
		for i := -5; i <= many+5; i++ {
			tellsAt(t, "At", j, i, want)
		}
		for _, i := range far() {
			tellsAt(t, "At", j, i, want)
		}
		if r, ok := j.At(many - 1); ok != (many > 0) || r.Number != many {
			t.Errorf("the last place of %d: %v %t", many, r, ok)
		}
		if r, ok := j.At(0); ok && r.Number != 1 {
			t.Errorf("the first place of %d: %v", many, r)
		}
		hasAll(t, "behind At", j, want)
	}
}

// TestFrom is P13.2: each number, one above the last, those below 1, and far ones.
func TestFrom(t *testing.T) {
	for many := range 40 {
		j, want := made(t, 9, 99, many), filled(9, 1, many)
		for number := -5; number <= many+5; number++ {
			if l, rounds := j.From(number), filled(9, max(number+1, 1), many); !slices.EqualFunc(l, rounds, same) {
				t.Errorf("From %d of %d: %v, not %v", number, many, l, rounds)
			}
		}
		for _, number := range far() {
			tellsFrom(t, "From", j, number, want)
		}
		if l := j.From(many - 1); many > 0 && (len(l) != 1 || l[0].Number != many) {
			t.Errorf("From of the last number less one, %d: %v", many-1, l)
		}
		if none, all := len(j.From(many)), len(j.From(math.MinInt)); none != 0 || all != many {
			t.Errorf("%d rounds: %d behind the last, %d behind the least int", many, none, all)
		}
		hasAll(t, "behind From", j, want)
	}
}

// TestManyRounds is P13.1 and P13.2: more rounds than a byte or two can count.
func TestManyRounds(t *testing.T) {
	const many = 1<<16 + 300
	j := made(t, 1, many+1, many)
	want := filled(1, 1, many)
	has(t, "many", j, want)
	for _, number := range []int{1, 255, 256, 257, 65535, 65536, 65537, many - 1, many, many + 1} {
		tellsFrom(t, "many", j, number, want)
	}
	takes(t, j, 1, many+1, ordinary(many+1))
	refuses(t, j, ordinary(many+2), api.ErrExhausted)
}

// TestAllOrders holds journals against plain ones, behind each order of up to six lists, good and bad.
func TestAllOrders(t *testing.T) {
	lists := []refused{
		{list(set("x", 1)), api.OK},
		{list(app("y", "s"), del("x")), api.OK},
		{nil, api.ErrRange},
		{list(del("x"), api.Update{Key: "k", Kind: 6}), api.ErrKind},
	}
	for last := range 5 {
		for order := range 1 << 12 {
			j, p := New(4, last), &plain{origin: 4, last: max(last, 1)}
			for o := order; o > 0; o /= 4 {
				x := lists[o%4]
				want, wantErr := p.add(x.l, x.e)
				adds(t, j, x.l, want, wantErr)
			}
			hasAll(t, "an order", j, p.rounds)
		}
	}
}

// TestLongOrders holds journals against plain ones, over long orders of adding and asking.
func TestLongOrders(t *testing.T) {
	lists := badLists()
	for range 4 { // as many good ones as bad ones, or nearly so
		for _, l := range goodLists() {
			lists = append(lists, refused{l, api.OK})
		}
	}
	for seed := range 30 {
		origin, last := seed%64+1, 40+seed*5
		if seed%10 == 9 {
			origin = 65
		}
		j, p := New(origin, last), &plain{origin: origin, last: last}
		state := uint32(seed)
		for range 600 {
			state = state*1664525 + 1013904223
			n := int(state >> 8)
			switch n % 4 {
			case 0:
				tellsAt(t, "a long order", j, n/4%(len(p.rounds)+3)-1, p.rounds)
			case 1:
				tellsFrom(t, "a long order", j, n/4%(len(p.rounds)+3)-1, p.rounds)
			default:
				x := lists[n/4%len(lists)]
				want, wantErr := p.add(x.l, x.e)
				adds(t, j, x.l, want, wantErr)
			}
		}
		hasAll(t, "a long order", j, p.rounds)
	}
}

// TestAskedAgain is P13.2: Len, At and From, asked again and in any order, tell the same.
func TestAskedAgain(t *testing.T) {
	j, want := made(t, 6, 9, 5), filled(6, 1, 5)
	for range 3 {
		for i := 6; i >= -1; i-- {
			tellsFrom(t, "again", j, i, want)
			tellsFrom(t, "again", j, i, want)
			tellsAt(t, "again", j, i, want)
			tellsAt(t, "again", j, i, want)
		}
		hasAll(t, "again", j, want)
	}
	before := j.From(2)
	takes(t, j, 6, 6, ordinary(6))
	if !slices.EqualFunc(before, filled(6, 3, 5), same) {
		t.Errorf("what From told, behind one more round: %v", before)
	}
}

// spoil changes all of a list, and of the room behind it.
func spoil(l []api.Update) {
	l = l[:cap(l)]
	for i := range l {
		l[i] = set("spoilt", int64(i))
	}
}

// TestHandedInIsNotKept is rule 5: what becomes of a list, of the room behind it, and of its texts' memory, shows nowhere.
func TestHandedInIsNotKept(t *testing.T) {
	j := New(1, 9)
	key, s := []byte("key"), []byte("text")
	room := list(put(unsafe.String(&key[0], len(key)), unsafe.String(&s[0], len(s))), del("b"), set("behind", 3))
	first, e := j.Add(room[:2])
	clear(key)
	clear(s)
	want := of(1, 1, list(put("key", "text"), del("b")))
	if !same(first, want) || e != api.OK {
		t.Errorf("Add, behind a change of the texts' memory: %v %d", first, e)
	}
	hasAll(t, "behind a change of the texts' memory", j, []api.Round{want})
	spoil(room)
	if !same(first, want) {
		t.Errorf("Add, behind a change of the list: %v", first)
	}
	hasAll(t, "behind a change of the list", j, []api.Round{want})
	second := of(1, 2, list(del("x"), del("y")))
	room = list(del("x"), del("y"))
	adds(t, j, room, second, api.OK)
	room[0] = add("z", 1)
	third := of(1, 3, list(add("z", 1), del("y")))
	adds(t, j, room, third, api.OK) // the same list again, with other updates
	spoil(room)
	hasAll(t, "one list, twice", j, []api.Round{want, second, third})
}

// TestHandedInStays is rule 5: Add changes no list that it is handed, nor its spare room, whether it takes it or not.
func TestHandedInStays(t *testing.T) {
	fresh := func() []api.Update {
		return list(set("a", 1), put("b", "x"), api.Update{Key: "c", Kind: 6}, del("spare"), del("room"))
	}
	for _, origin := range []int{0, 1} {
		for many := range 6 {
			j, room := New(origin, 2), fresh()
			for range 3 {
				r, _ := j.Add(room[:many])
				spoil(r.Updates)
			}
			for _, r := range j.From(0) {
				spoil(r.Updates)
			}
			if !slices.Equal(room, fresh()) {
				t.Errorf("of %d updates: %v", many, room)
			}
		}
	}
}

// TestAnswersAreTheCallers is rule 5: what the caller does with a round that Add or At told, or with From's list and its rounds, shows nowhere.
func TestAnswersAreTheCallers(t *testing.T) {
	j := New(8, 9)
	for n := 1; n <= 4; n++ {
		r, _ := j.Add(ordinary(n))
		spoil(r.Updates)
		has(t, "behind a change of what Add told", j, filled(8, 1, n))
	}
	want := filled(8, 1, 4)
	for i := range 4 {
		one, _ := j.At(i)
		other, _ := j.At(i)
		spoil(one.Updates)
		if !same(other, want[i]) {
			t.Errorf("At, asked again: %v", other)
		}
		hasAll(t, "behind a change of what At told", j, want)
	}
	for number := -1; number <= 4; number++ {
		one, other := j.From(number), j.From(number)
		for i := range one {
			spoil(one[i].Updates)
			if !slices.EqualFunc(one[i+1:], above(number, want)[i+1:], same) {
				t.Errorf("two rounds of From %d share a list: %v", number, one)
			}
			one[i] = of(9, 99, nil)
		}
		room := one[:cap(one)]
		for i := range room {
			room[i] = of(7, 77, nil)
		}
		_ = append(one, of(6, 66, nil))
		if !slices.EqualFunc(other, above(number, want), same) {
			t.Errorf("From %d, asked again: %v", number, other)
		}
		hasAll(t, "behind a change of what From told", j, want)
	}
	takes(t, j, 8, 5, ordinary(5))
	hasAll(t, "one round more", j, filled(8, 1, 5))
}

// TestOneAnswerStays: what one call told stays as it is, whatever is done with what the others told.
func TestOneAnswerStays(t *testing.T) {
	j := New(8, 9)
	added, _ := j.Add(ordinary(1))
	at, _ := j.At(0)
	from := j.From(0)
	want := of(8, 1, ordinary(1))
	all := []*api.Round{&added, &at, &from[0]}
	for i, r := range all {
		if !same(*r, want) {
			t.Errorf("answer %d: %v", i, *r)
		}
		spoil(r.Updates)
		for _, later := range all[i+1:] {
			if !same(*later, want) {
				t.Errorf("behind a change of answer %d: %v", i, *later)
			}
		}
	}
	has(t, "behind changes of all", j, []api.Round{want})
}

// TestTwoJournals is P13.1 and P13.2: two show nothing of each other, and make the same rounds of the same lists, each with its own origin.
func TestTwoJournals(t *testing.T) {
	one, other := New(1, 3), New(1, 3)
	takes(t, one, 1, 1, ordinary(1), ordinary(2), ordinary(3))
	refuses(t, one, ordinary(4), api.ErrExhausted)
	has(t, "the other one", other, nil)
	has(t, "one made later", New(1, 3), nil)
	takes(t, other, 1, 1, ordinary(5))
	hasAll(t, "the one", one, filled(1, 1, 3))
	has(t, "the other one", other, []api.Round{of(1, 1, ordinary(5))})

	origins := []int{1, 2, 64, 2}
	var journals []*Journal
	for i, origin := range origins {
		journals = append(journals, New(origin, maxLast-i))
	}
	for i, l := range goodLists() {
		for k, j := range journals {
			adds(t, j, l, of(origins[k], i+1, l), api.OK)
			refuses(t, j, badLists()[i].l, badLists()[i].e)
		}
	}
	for k, j := range journals {
		l := j.From(0)
		for i, want := range journals[0].From(0) {
			want.Origin = origins[k]
			if !same(l[i], want) {
				t.Errorf("of the origin %d: %v, not %v", origins[k], l[i], want)
			}
			spoil(l[i].Updates)
		}
	}
	for k, j := range journals {
		var want []api.Round
		for i, l := range goodLists() {
			want = append(want, of(origins[k], i+1, l))
		}
		hasAll(t, "one of several", j, want)
	}
}

// TestRoundsCanGo: each round has bytes, of which it is got again (layer 7).
func TestRoundsCanGo(t *testing.T) {
	j := New(64, 99)
	for _, l := range goodLists() {
		j.Add(l)
	}
	for _, r := range j.From(0) {
		b, e := round.Put(r)
		got, e2 := round.Get(b)
		if e != api.OK || e2 != api.OK || !round.Same(got, r) {
			t.Errorf("%v: put %d, got %v %d", r, e, got, e2)
		}
	}
}

// TestTextsAreNew: the texts that are told are memory of their own, so that none of them keeps a longer one.
func TestTextsAreNew(t *testing.T) {
	long := strings.Repeat("0123456789", 100)
	j := New(1, 9)
	added, _ := j.Add(list(put(long[:10], long[20:40])))
	at, _ := j.At(0)
	from := j.From(0)
	seen := map[*byte]bool{unsafe.StringData(long): true, unsafe.StringData(long[20:]): true}
	for i, r := range []api.Round{added, at, from[0]} {
		for _, s := range []string{r.Updates[0].Key, r.Updates[0].S} {
			if p := unsafe.StringData(s); seen[p] {
				t.Errorf("answer %d: %q is told from elsewhere", i, s)
			} else {
				seen[p] = true
			}
		}
	}
}
