package commit

import (
	"math"
	"slices"
	"strconv"
	"strings"
	"testing"
	"unsafe"

	"chapbook/api"
	"chapbook/round"
)

const (
	maxLast  = 1 << 40  // the greatest Number
	least    = -1 << 61 // of the numbers that an update may have
	greatest = 1<<61 - 1
)

// The edges of an update's texts.
const (
	key16  = "\x00\xff234567890abcde"
	text32 = "\xff234567890123456789012345678901\x00"
	key17  = "12345678901234567"
	text33 = "123456789012345678901234567890123"
)

// set, put, add, app and del make updates.
func set(key string, n int64) api.Update { return api.Update{Key: key, Kind: api.USet, N: n} }
func put(key, s string) api.Update       { return api.Update{Key: key, Kind: api.UText, S: s} }
func add(key string, n int64) api.Update { return api.Update{Key: key, Kind: api.UAdd, N: n} }
func app(key, s string) api.Update       { return api.Update{Key: key, Kind: api.UAppend, S: s} }
func del(key string) api.Update          { return api.Update{Key: key, Kind: api.UDelete} }

// list is updates.
func list(l ...api.Update) []api.Update { return l }

// times: an update, so many times.
func times(u api.Update, n int) []api.Update { return slices.Repeat(list(u), n) }

// of makes a round.
func of(origin, number int, l ...api.Update) api.Round {
	return api.Round{Origin: origin, Number: number, Updates: l}
}

// ordinary is the round that the tests have of an origin and a number, with other updates at each.
func ordinary(origin, number int) api.Round {
	return of(origin, number, add("n", int64(number)), put("key", strconv.Itoa(origin)+" "+strconv.Itoa(number)))
}

// filled is the ordinary rounds of an origin, from a number up to another one.
func filled(origin, first, last int) []api.Round {
	var l []api.Round
	for n := first; n <= last; n++ {
		l = append(l, ordinary(origin, n))
	}
	return l
}

// mixed is so many ordinary rounds of the origins 1 to 5, in turns of their own, each origin's in the order of its numbers.
func mixed(many int) []api.Round {
	var l []api.Round
	var lasts [6]int
	for i := range many {
		origin := (i*i+i/3)%5 + 1
		lasts[origin]++
		l = append(l, ordinary(origin, lasts[origin]))
	}
	return l
}

// same tells by its own means whether two rounds are alike.
func same(a, b api.Round) bool {
	return a.Origin == b.Origin && a.Number == b.Number && slices.Equal(a.Updates, b.Updates)
}

// lastOf: the greatest Number of an origin's rounds; 0, if it has none.
func lastOf(origin int, rounds []api.Round) int {
	last := 0
	for _, r := range rounds {
		if r.Origin == origin {
			last = max(last, r.Number)
		}
	}
	return last
}

// plain is a log by the tests' own means; what round.May tells of a round, it is told.
type plain struct {
	clients int
	rounds  []api.Round
}

func (p *plain) add(r api.Round, may api.Errno) api.Errno {
	if may != api.OK {
		return may
	}
	if r.Origin > p.clients {
		return api.ErrNone
	}
	for _, x := range p.rounds {
		if x.Origin == r.Origin && x.Number == r.Number {
			return api.ErrTwice
		}
	}
	if r.Number != lastOf(r.Origin, p.rounds)+1 {
		return api.ErrOrder
	}
	p.rounds = append(p.rounds, of(r.Origin, r.Number, slices.Clone(r.Updates)...))
	return api.OK
}

// adds looks what Add answers.
func adds(t *testing.T, l *Log, r api.Round, want api.Errno) {
	t.Helper()
	if e := l.Add(r); e != want {
		t.Fatalf("Add %.200v: %d, not %d", r, e, want)
	}
}

// takes looks whether a log takes all these rounds.
func takes(t *testing.T, l *Log, rounds ...api.Round) {
	t.Helper()
	for _, r := range rounds {
		adds(t, l, r, api.OK)
	}
}

// refuses looks whether Add answers that error, and changes nothing.
func refuses(t *testing.T, l *Log, r api.Round, want api.Errno) {
	t.Helper()
	before := l.All()
	adds(t, l, r, want)
	has(t, "behind a refused round", l, before)
}

// tellsAt looks what At answers.
func tellsAt(t *testing.T, name string, l *Log, i int, want []api.Round) {
	t.Helper()
	r, ok := l.At(i)
	if i >= 0 && i < len(want) {
		if !ok || !same(r, want[i]) {
			t.Fatalf("%s: At %d: %v %t, not %v", name, i, r, ok, want[i])
		}
	} else if ok || !same(r, api.Round{}) {
		t.Fatalf("%s: At %d of %d: %v %t", name, i, len(want), r, ok)
	}
}

// tellsLast looks what Last answers.
func tellsLast(t *testing.T, name string, l *Log, origin int, want []api.Round) {
	t.Helper()
	if n, last := l.Last(origin), lastOf(origin, want); n != last {
		t.Fatalf("%s: Last %d: %d, not %d", name, origin, n, last)
	}
}

// tellsAll looks what All answers.
func tellsAll(t *testing.T, name string, l *Log, want []api.Round) {
	t.Helper()
	if all := l.All(); !slices.EqualFunc(all, want, same) {
		t.Fatalf("%s: All: %.300v, not %.300v", name, all, want)
	}
}

// has looks whether a log has just these rounds, by Len, by At of each place, by Last of each origin, and by All.
func has(t *testing.T, name string, l *Log, want []api.Round) {
	t.Helper()
	if n := l.Len(); n != len(want) {
		t.Fatalf("%s: Len %d, not %d", name, n, len(want))
	}
	for i := -2; i <= len(want)+2; i++ {
		tellsAt(t, name, l, i, want)
	}
	var lasts [68]int // of -1 to 66
	for _, r := range want {
		lasts[r.Origin+1] = r.Number
	}
	for i, last := range lasts {
		if n := l.Last(i - 1); n != last {
			t.Fatalf("%s: Last %d: %d, not %d", name, i-1, n, last)
		}
	}
	tellsAll(t, name, l, want)
}

// made is a log to which these rounds were added.
func made(t *testing.T, clients int, rounds ...api.Round) *Log {
	t.Helper()
	l := New(clients)
	takes(t, l, rounds...)
	return l
}

// far are numbers that are no place, no origin and no Number of a round here, with such as would be one, if some of their bits were lost.
func far() []int {
	return []int{math.MaxInt, math.MaxInt - 1, 1 << 62, 1<<62 + 1, maxLast + 1, 2 * maxLast, maxLast<<1 + 1, 1 << 50, 1<<50 + 2,
		-1, -2, -64, -65, -256, -1 << 16, -1 << 31, -1 << 32, 1 - 1<<32, -maxLast, 1 - maxLast, -1 << 62, math.MinInt + 2, math.MinInt + 1, math.MinInt}
}

// beyond are such that a Number may be, but none of the next ones here.
func beyond() []int {
	return []int{255, 256, 257, 1 << 16, 1<<16 + 1, 1<<31 + 1, 1 << 32, 1<<32 + 1, 1<<32 + 2, maxLast - 1, maxLast}
}

// goodLists: ordinary lists with updates of each Kind, and such as are at the bounds.
func goodLists() [][]api.Update {
	l := [][]api.Update{
		list(del("k")), list(set("a", 3)), list(put("name", "Ann")), list(add("count", -5)), list(app("ab", "xyz")),
		list(set("a", 3), put("name", "Ann"), add("count", -5), app("ab", "xyz"), del("gone")),
		list(del("k"), del("k")), list(set("k", 0), put("k", ""), add("k", 0), app("k", "")),
		list(put(key16, text32)), list(app("\x00", text32), app("\xff", "\x00")), list(del(key16)),
		list(set(key16, least), set("k", greatest), add(key16, least), add("k", greatest)),
		times(app(key16, text32), 8),
	}
	for many := 1; many <= 8; many++ {
		l = append(l, times(set("k", int64(many)), many))
	}
	return l
}

// refused is a list that may not be, and why.
type refused struct {
	l []api.Update
	e api.Errno
}

// badUpdates: updates that may not be, each in a list of its own.
func badUpdates() []refused {
	return []refused{
		{list(api.Update{}), api.ErrRange},
		{list(del("")), api.ErrRange},
		{list(del(key17)), api.ErrRange},
		{list(api.Update{Key: key17, Kind: 9, N: 1, S: text33}), api.ErrRange},
		{list(api.Update{Key: "k"}), api.ErrKind},
		{list(api.Update{Key: "k", Kind: 6}), api.ErrKind},
		{list(api.Update{Key: "k", Kind: -1, N: 1}), api.ErrKind},
		{list(api.Update{Key: "k", Kind: math.MaxInt, S: text33}), api.ErrKind},
		{list(api.Update{Key: "k", Kind: api.USet, S: "x"}), api.ErrForm},
		{list(api.Update{Key: "k", Kind: api.UText, N: 1}), api.ErrForm},
		{list(api.Update{Key: "k", Kind: api.UAdd, N: greatest + 1, S: "x"}), api.ErrForm},
		{list(api.Update{Key: "k", Kind: api.UAppend, N: -1, S: text33}), api.ErrForm},
		{list(api.Update{Key: "k", Kind: api.UDelete, N: 1}), api.ErrForm},
		{list(api.Update{Key: "k", Kind: api.UDelete, S: "x"}), api.ErrForm},
		{list(set("k", least-1)), api.ErrRange},
		{list(set("k", greatest+1)), api.ErrRange},
		{list(add("k", math.MinInt64)), api.ErrRange},
		{list(add("k", math.MaxInt64)), api.ErrRange},
		{list(put("k", text33)), api.ErrRange},
		{list(app("k", text33)), api.ErrRange},
	}
}

// badLists: lists that may not be: no updates, too many, an update that may not be at each place, and several of these at once.
func badLists() []refused {
	formless, unkind := api.Update{Key: "k", Kind: api.UDelete, N: 1}, api.Update{Key: "k", Kind: 6}
	l := []refused{
		{nil, api.ErrRange},
		{list(), api.ErrRange},
		{[]api.Update{}, api.ErrRange},
		{list(unkind, unkind)[:0], api.ErrRange},
		{times(del("k"), 9), api.ErrRange},
		{times(del("k"), 1000), api.ErrRange},
		{times(unkind, 9), api.ErrRange},
		{times(formless, 264), api.ErrRange},
		{list(formless, unkind), api.ErrForm},
		{list(unkind, formless), api.ErrKind},
		{list(unkind, del("")), api.ErrKind},
		{list(del(""), unkind), api.ErrRange},
		{list(del("k"), formless, set("k", 1), unkind, del("")), api.ErrForm},
		{list(del("k"), set("k", 1), del(""), formless, unkind), api.ErrRange},
	}
	for _, x := range badUpdates() {
		for many := 1; many <= 8; many++ {
			for place := range many {
				wrong := times(set("k", 1), many)
				wrong[place] = x.l[0]
				l = append(l, refused{wrong, x.e})
			}
		}
	}
	return l
}

// TestDocumentExample is P14.1 and P14.2: the chapter's.
func TestDocumentExample(t *testing.T) {
	l := New(2)
	adds(t, l, ordinary(1, 1), api.OK)
	adds(t, l, ordinary(2, 1), api.OK)
	adds(t, l, ordinary(1, 1), api.ErrTwice)
	adds(t, l, ordinary(1, 3), api.ErrOrder)
	adds(t, l, ordinary(1, 2), api.OK)
	has(t, "the example", l, []api.Round{ordinary(1, 1), ordinary(2, 1), ordinary(1, 2)})
	if one, two := l.Last(1), l.Last(2); one != 2 || two != 1 {
		t.Errorf("Last: %d and %d", one, two)
	}
}

// clientsThatCount are numbers of clients, and how many each counts as.
func clientsThatCount() []struct{ clients, counts int } {
	l := []struct{ clients, counts int }{
		{0, 1}, {65, 64}, {66, 64}, {128, 64}, {129, 64}, {256, 64}, {257, 64}, {1 << 32, 64}, {1<<32 + 2, 64}, {maxLast, 64}, {maxLast + 3, 64},
	}
	for clients := 1; clients <= 64; clients++ {
		l = append(l, struct{ clients, counts int }{clients, clients})
	}
	for _, clients := range far() {
		counts := 1
		if clients > 0 {
			counts = 64
		}
		l = append(l, struct{ clients, counts int }{clients, counts})
	}
	return l
}

// TestNew is P14.1 and P14.2: no rounds, however many clients.
func TestNew(t *testing.T) {
	for _, x := range clientsThatCount() {
		l := New(x.clients)
		has(t, "new", l, nil)
		for _, n := range append(far(), beyond()...) {
			tellsAt(t, "new", l, n, nil)
			tellsLast(t, "new", l, n, nil)
		}
	}
}

// TestClients is P14.1: origins are 1 to clients; ErrNone of those above, up to 64; of no origin at all round.May's error.
func TestClients(t *testing.T) {
	for _, x := range clientsThatCount() {
		l := New(x.clients)
		var want []api.Round
		for number := 1; number <= 3; number++ {
			for origin := 64; origin >= 1; origin-- {
				if r := ordinary(origin, number); origin <= x.counts {
					takes(t, l, r)
					want = append(want, r)
				} else {
					adds(t, l, r, api.ErrNone)
				}
			}
			for _, origin := range append(far(), 0, 65, 66, 128, 129, 256, 257) {
				adds(t, l, ordinary(origin, number), api.ErrRange)
			}
			has(t, "of "+strconv.Itoa(x.clients), l, want)
		}
	}
}

// TestOneMoreOrigin is P14.1: the first origin, the last one, and one more, at the least and the greatest number of clients.
func TestOneMoreOrigin(t *testing.T) {
	one := New(1)
	takes(t, one, ordinary(1, 1))
	refuses(t, one, ordinary(2, 1), api.ErrNone)
	refuses(t, one, ordinary(64, 1), api.ErrNone)
	refuses(t, one, ordinary(65, 1), api.ErrRange)
	refuses(t, one, ordinary(0, 1), api.ErrRange)
	takes(t, one, ordinary(1, 2))
	all := New(64)
	takes(t, all, ordinary(64, 1), ordinary(1, 1))
	refuses(t, all, ordinary(65, 1), api.ErrRange)
	refuses(t, all, ordinary(0, 1), api.ErrRange)
	refuses(t, all, ordinary(-1, 1), api.ErrRange)
	takes(t, all, ordinary(63, 1), ordinary(64, 2))
	has(t, "of 64", all, []api.Round{ordinary(64, 1), ordinary(1, 1), ordinary(63, 1), ordinary(64, 2)})
}

// TestNumbers is P14.1: behind so many rounds of an origin all their numbers come twice, the next one is taken, and all above it aren't.
func TestNumbers(t *testing.T) {
	for _, origin := range []int{1, 2, 33, 63, 64} {
		for many := range 20 {
			l := made(t, 64, filled(origin, 1, many)...)
			for number := 1; number <= many; number++ {
				refuses(t, l, ordinary(origin, number), api.ErrTwice)
			}
			for number := many + 2; number <= many+20; number++ {
				refuses(t, l, ordinary(origin, number), api.ErrOrder)
			}
			for _, number := range beyond() {
				refuses(t, l, ordinary(origin, number), api.ErrOrder)
			}
			for _, number := range append(far(), 0) {
				refuses(t, l, ordinary(origin, number), api.ErrRange)
			}
			takes(t, l, ordinary(origin, many+1))
			refuses(t, l, ordinary(origin, many+1), api.ErrTwice)
			has(t, "one more", l, filled(origin, 1, many+1))
		}
	}
}

// TestTwiceByNumberAlone is P14.1: whether a round comes twice, or isn't the next one, hangs on its Origin and Number, not on its updates.
func TestTwiceByNumberAlone(t *testing.T) {
	l := made(t, 9, ordinary(3, 1), ordinary(3, 2))
	refuses(t, l, of(3, 1, del("other")), api.ErrTwice)
	refuses(t, l, of(3, 2, ordinary(3, 1).Updates...), api.ErrTwice)
	refuses(t, l, of(3, 4, ordinary(3, 2).Updates...), api.ErrOrder)
	takes(t, l, of(3, 3, ordinary(3, 2).Updates...), of(4, 1, ordinary(3, 2).Updates...), of(4, 2, ordinary(3, 2).Updates...))
	if n := l.Len(); n != 5 {
		t.Errorf("Len %d", n)
	}
}

// TestNumbersOfOthers is P14.1: what the other origins' rounds are plays no part for an origin's next Number.
func TestNumbersOfOthers(t *testing.T) {
	for origin := 1; origin <= 64; origin++ {
		l := New(64)
		var want []api.Round
		for other := 1; other <= 64; other++ {
			if other != origin {
				want = append(want, filled(other, 1, other%3+1)...)
			}
		}
		takes(t, l, want...)
		for _, number := range []int{2, 3, 4, 64, 65} {
			adds(t, l, ordinary(origin, number), api.ErrOrder)
		}
		adds(t, l, ordinary(origin, 1), api.OK)
		adds(t, l, ordinary(origin, 1), api.ErrTwice)
		adds(t, l, ordinary(origin, 3), api.ErrOrder)
		has(t, "behind others", l, append(want, ordinary(origin, 1)))
	}
}

// at is a log of 64 clients whose origin's last round has that Number: no test can add so many, so it is laid within.
func at(origin, last int) *Log {
	l := New(64)
	l.lasts[origin] = last
	return l
}

// TestGreatNumbers is P14.1 and P14.2: numbers of up to 2^40, and none above.
func TestGreatNumbers(t *testing.T) {
	for _, last := range []int{1 << 16, 1<<31 - 1, 1 << 31, 1<<32 - 1, 1 << 32, maxLast - 2, maxLast - 1} {
		for _, origin := range []int{1, 64} {
			l := at(origin, last)
			if n := l.Last(origin); n != last {
				t.Errorf("Last %d, not %d", n, last)
			}
			adds(t, l, ordinary(origin, last), api.ErrTwice)
			adds(t, l, ordinary(origin, 1), api.ErrTwice)
			beyondNext := api.ErrOrder
			if last+2 > maxLast {
				beyondNext = api.ErrRange
			}
			adds(t, l, ordinary(origin, last+2), beyondNext)
			adds(t, l, ordinary(origin, last+1), api.OK)
			has(t, "of great numbers", l, []api.Round{ordinary(origin, last+1)})
		}
	}
	l := at(5, maxLast)
	refuse := func(number int, want api.Errno) {
		t.Helper()
		adds(t, l, ordinary(5, number), want)
	}
	refuse(maxLast+1, api.ErrRange)
	refuse(maxLast+2, api.ErrRange)
	refuse(maxLast, api.ErrTwice)
	refuse(maxLast-1, api.ErrTwice)
	refuse(1, api.ErrTwice)
	if n, last := l.Len(), l.Last(5); n != 0 || last != maxLast {
		t.Errorf("Len %d, Last %d", n, last)
	}
}

// TestGoodLists is P14.1 and P14.2: rounds of each list that may be are taken, as they are.
func TestGoodLists(t *testing.T) {
	for _, origin := range []int{1, 2, 33, 63, 64} {
		l := New(origin)
		var want []api.Round
		for i, updates := range goodLists() {
			has(t, "ahead of a round", l, want)
			r := of(origin, i+1, updates...)
			takes(t, l, r)
			refuses(t, l, r, api.ErrTwice)
			want = append(want, r)
		}
		has(t, "behind all rounds", l, want)
		for _, r := range l.All() {
			if e := round.May(r); e != api.OK {
				t.Errorf("%v may not be: %d", r, e)
			}
		}
	}
}

// TestHowMany is P14.1: rounds of 1 to 8 updates, and no others.
func TestHowMany(t *testing.T) {
	l := New(1)
	for many := range 30 {
		if many >= 1 && many <= 8 {
			takes(t, l, of(1, many, times(del("k"), many)...))
		} else {
			refuses(t, l, of(1, l.Last(1)+1, times(del("k"), many)...), api.ErrRange)
		}
	}
	if n := l.Len(); n != 8 {
		t.Errorf("Len %d", n)
	}
}

// TestBadLists is P14.1: the first error that round.May tells, and nothing else changes.
func TestBadLists(t *testing.T) {
	for many := range 3 {
		for _, x := range badLists() {
			if e := round.May(of(5, many+1, x.l...)); e != x.e {
				t.Fatalf("%.200v: round.May tells %d, not %d", x.l, e, x.e)
			}
			l := made(t, 6, filled(5, 1, many)...)
			refuses(t, l, of(5, many+1, x.l...), x.e)
			takes(t, l, ordinary(5, many+1))
			refuses(t, l, of(5, many+2, x.l...), x.e)
			has(t, "with a bad round", l, filled(5, 1, many+1))
		}
	}
}

// TestWhichErrorIsFirst is P14.1: round.May's error, ahead of ErrNone, ErrTwice and ErrOrder; ErrNone, ahead of ErrOrder.
func TestWhichErrorIsFirst(t *testing.T) {
	l := made(t, 5, filled(5, 1, 2)...)
	bad := badLists()
	for _, x := range bad {
		for _, origin := range []int{5, 6, 64} { // twice, the next one, in no order; of no origin
			for number := 1; number <= 5; number++ {
				adds(t, l, of(origin, number, x.l...), x.e)
			}
			adds(t, l, of(origin, maxLast, x.l...), x.e)
		}
	}
	for _, x := range bad {
		for _, origin := range append(far(), 0, 65) {
			adds(t, l, of(origin, 1, x.l...), api.ErrRange)
		}
		for _, number := range append(far(), 0) {
			adds(t, l, of(5, number, x.l...), api.ErrRange)
			adds(t, l, of(6, number, x.l...), api.ErrRange)
		}
	}
	for _, number := range append(far(), 0) { // a Number that none may be, of no origin, or below the last one, or far above it
		adds(t, l, ordinary(6, number), api.ErrRange)
		adds(t, l, ordinary(5, number), api.ErrRange)
		adds(t, l, ordinary(0, number), api.ErrRange)
	}
	for _, number := range append(beyond(), 1, 2, 3, 4) {
		adds(t, l, ordinary(6, number), api.ErrNone)
		adds(t, l, ordinary(64, number), api.ErrNone)
		adds(t, l, ordinary(65, number), api.ErrRange)
	}
	has(t, "behind all errors", l, filled(5, 1, 2))
}

// TestNoOriginNeverCountsUp is P14.1 and P14.2: of an origin above clients no Number is ever the last one, however often its rounds come.
func TestNoOriginNeverCountsUp(t *testing.T) {
	l := New(3)
	for range 3 {
		for number := 1; number <= 4; number++ {
			refuses(t, l, ordinary(4, number), api.ErrNone)
			refuses(t, l, ordinary(64, number), api.ErrNone)
		}
	}
	takes(t, l, ordinary(3, 1))
	has(t, "of 3", l, filled(3, 1, 1))
}

// TestAt is P14.2: each place, one more, one less, and far ones.
func TestAt(t *testing.T) {
	for many := range 40 {
		want := mixed(many)
		l := made(t, 5, want...)
		for i := -5; i <= many+5; i++ {
			tellsAt(t, "At", l, i, want)
		}
		for _, i := range append(far(), beyond()...) {
			tellsAt(t, "At", l, i, want)
		}
		if _, ok := l.At(many); ok {
			t.Errorf("a round behind the last of %d", many)
		}
		if r, ok := l.At(many - 1); ok != (many > 0) || many > 0 && !same(r, want[many-1]) {
			t.Errorf("the last place of %d: %v %t", many, r, ok)
		}
		has(t, "behind At", l, want)
	}
}

// TestLast is P14.2: of each origin, of one that has no rounds, and of no origin.
func TestLast(t *testing.T) {
	for _, clients := range []int{5, 6, 63, 64} {
		for many := range 40 {
			want := mixed(many)
			l := made(t, clients, want...)
			for origin := -5; origin <= 130; origin++ {
				tellsLast(t, "Last", l, origin, want)
			}
			for _, origin := range append(far(), beyond()...) {
				tellsLast(t, "Last", l, origin, want)
			}
			has(t, "behind Last", l, want)
		}
	}
	l := made(t, 64, filled(64, 1, 3)...)
	takes(t, l, filled(1, 1, 2)...)
	for _, x := range []struct{ origin, last int }{{64, 3}, {1, 2}, {2, 0}, {63, 0}, {0, 0}, {65, 0}, {-1, 0}, {math.MaxInt, 0}, {math.MinInt, 0}} {
		if n := l.Last(x.origin); n != x.last {
			t.Errorf("Last %d: %d, not %d", x.origin, n, x.last)
		}
	}
}

// TestManyRounds is P14.1 and P14.2: more rounds than a byte or two can count.
func TestManyRounds(t *testing.T) {
	const each = 1<<15 + 300
	l := New(64)
	var want []api.Round
	for number := 1; number <= each; number++ {
		want = append(want, ordinary(1, number), ordinary(64, number))
	}
	takes(t, l, want...)
	has(t, "many", l, want)
	for _, number := range []int{1, 255, 256, 257, 1 << 15, each - 1, each} {
		adds(t, l, ordinary(64, number), api.ErrTwice)
		adds(t, l, ordinary(2, number+1), api.ErrOrder)
	}
	adds(t, l, ordinary(1, each+2), api.ErrOrder)
	takes(t, l, ordinary(1, each+1))
	has(t, "one more", l, append(want, ordinary(1, each+1)))
}

// TestAllOrders is P14.1 to P14.3: logs against plain ones, behind each order of up to six rounds, good and bad.
func TestAllOrders(t *testing.T) {
	rounds := []struct {
		r api.Round
		e api.Errno
	}{
		{ordinary(1, 1), api.OK},
		{ordinary(1, 2), api.OK},
		{ordinary(1, 3), api.OK},
		{ordinary(2, 1), api.OK},
		{ordinary(2, 2), api.OK},
		{of(1, 2, api.Update{Key: "k", Kind: 6}), api.ErrKind},
		{of(2, 1), api.ErrRange},
	}
	for clients := 1; clients <= 2; clients++ {
		for order := range 8 * 8 * 8 * 8 * 8 * 8 {
			l, p := New(clients), &plain{clients: clients}
			for o := order; o > 0; o /= 8 {
				if o%8 > 0 {
					x := rounds[o%8-1]
					adds(t, l, x.r, p.add(x.r, x.e))
				}
			}
			if n := l.Len(); n != len(p.rounds) {
				t.Fatalf("an order: Len %d, not %d", n, len(p.rounds))
			}
			tellsAll(t, "an order", l, p.rounds)
			for origin := range 4 {
				tellsLast(t, "an order", l, origin, p.rounds)
			}
		}
	}
}

// stands looks whether a log is what P14.3 tells: each round of an origin once, in the order of numbers, from 1 on, without gaps.
func stands(t *testing.T, name string, l *Log) {
	t.Helper()
	next := map[int]int{}
	for i, r := range l.All() {
		next[r.Origin]++
		if r.Number != next[r.Origin] || !same(r, ordinary(r.Origin, r.Number)) {
			t.Fatalf("%s: at the place %d: %v", name, i, r)
		}
	}
	for origin := 1; origin <= 64; origin++ {
		if n := l.Last(origin); n != next[origin] {
			t.Fatalf("%s: Last %d: %d, not %d", name, origin, n, next[origin])
		}
	}
}

// TestAnyOrder is P14.3: rounds that come twice, late, early or in any order of their origins leave just those, and what stands there stays.
func TestAnyOrder(t *testing.T) {
	for seed := range 60 {
		origins, each := seed%9+1, seed%7+2
		var all []api.Round
		for origin := 1; origin <= origins; origin++ {
			all = append(all, filled(origin, 1, each)...)
		}
		l, state := New(origins), uint32(seed)
		var stood []api.Round
		for range each * 4 {
			for i := range all {
				state = state*1664525 + 1013904223
				k := i + int(state>>8)%(len(all)-i)
				all[i], all[k] = all[k], all[i]
			}
			for i, r := range all {
				l.Add(r)
				if i%3 == 0 {
					l.Add(r)
				}
				l.Add(all[len(all)-1-i])
			}
			stands(t, "shuffled", l)
			now := l.All()
			if len(now) < len(stood) || !slices.EqualFunc(now[:len(stood)], stood, same) {
				t.Fatalf("%v, not a beginning of %v any more", stood, now)
			}
			stood = now
		}
		if n := l.Len(); n != origins*each { // each pass takes at least the next one of each origin
			t.Errorf("%d rounds of %d", n, origins*each)
		}
		for _, r := range all {
			refuses(t, l, r, api.ErrTwice)
		}
	}
}

// TestTurnedAround is P14.3: in falling order just the first one of each origin is left by each pass.
func TestTurnedAround(t *testing.T) {
	all := append(filled(1, 1, 5), filled(2, 1, 5)...)
	slices.Reverse(all)
	l := New(2)
	var want []api.Round
	for pass := 1; pass <= 5; pass++ {
		for _, r := range all {
			l.Add(r)
		}
		want = append(want, ordinary(2, pass), ordinary(1, pass))
		has(t, "turned around", l, want)
	}
}

// TestOrderOfOrigins is P14.3: origins stand in the order in which their rounds came, not in any of their own.
func TestOrderOfOrigins(t *testing.T) {
	for seed := range 20 {
		var want []api.Round
		var lasts [65]int
		state := uint32(seed)
		for range 200 {
			state = state*1664525 + 1013904223
			origin := int(state>>8)%64 + 1
			lasts[origin]++
			want = append(want, ordinary(origin, lasts[origin]))
		}
		has(t, "as they came", made(t, 64, want...), want)
	}
}

// TestLongOrders is P14.1 to P14.3: logs against plain ones, over long orders of adding and asking.
func TestLongOrders(t *testing.T) {
	good, bad := goodLists(), badLists()
	for seed := range 40 {
		clients := seed%6 + 1
		l, p := New(clients), &plain{clients: clients}
		state := uint32(seed)
		for range 500 {
			state = state*1664525 + 1013904223
			n := int(state >> 8)
			origin := n/8%(clients+2) + 1
			switch n % 8 {
			case 0:
				tellsAt(t, "a long order", l, n/8%(len(p.rounds)+3)-1, p.rounds)
			case 1:
				tellsLast(t, "a long order", l, origin-1, p.rounds)
			case 2:
				tellsAll(t, "a long order", l, p.rounds)
			case 3:
				x := bad[n/64%len(bad)]
				r := of(origin, lastOf(origin, p.rounds)+1, x.l...)
				adds(t, l, r, p.add(r, x.e))
			default:
				number := max(lastOf(origin, p.rounds)+n/64%4-1, 1)
				r := of(origin, number, good[n/256%len(good)]...)
				adds(t, l, r, p.add(r, api.OK))
			}
		}
		has(t, "a long order", l, p.rounds)
	}
}

// TestAskedAgain is P14.2: Len, At, Last and All, asked again and in any order, tell the same.
func TestAskedAgain(t *testing.T) {
	want := mixed(12)
	l := made(t, 5, want...)
	for range 3 {
		for i := 13; i >= -1; i-- {
			tellsAt(t, "again", l, i, want)
			tellsAt(t, "again", l, i, want)
			tellsLast(t, "again", l, i, want)
			tellsAll(t, "again", l, want)
		}
		has(t, "again", l, want)
	}
	before := l.All()
	takes(t, l, ordinary(1, l.Last(1)+1))
	if !slices.EqualFunc(before, want, same) {
		t.Errorf("what All told, behind one more round: %v", before)
	}
}

// spoil changes all of a round's updates, and of the room behind them.
func spoil(r api.Round) {
	l := r.Updates[:cap(r.Updates)]
	for i := range l {
		l[i] = set("spoilt", int64(i))
	}
}

// TestHandedInIsNotKept is P14.3 and rule 5: what becomes of a round, of the room behind its updates, and of their texts' memory, shows nowhere.
func TestHandedInIsNotKept(t *testing.T) {
	l := New(2)
	key, s := []byte("key"), []byte("text")
	room := list(put(unsafe.String(&key[0], len(key)), unsafe.String(&s[0], len(s))), del("b"), set("behind", 3))
	r := of(1, 1, room[:2]...)
	adds(t, l, r, api.OK)
	clear(key)
	clear(s)
	want := []api.Round{of(1, 1, put("key", "text"), del("b"))}
	has(t, "behind a change of the texts' memory", l, want)
	spoil(r)
	has(t, "behind a change of the updates", l, want)
	r.Updates = r.Updates[:1]
	r.Origin, r.Number, r.Updates[0] = 2, 1, add("z", 1)
	adds(t, l, r, api.OK) // the same list again, with other updates
	spoil(r)
	r.Origin, r.Number = 9, 9
	has(t, "one list, twice", l, append(want, of(2, 1, add("z", 1))))
}

// TestHandedInStays is rule 5: Add changes no round that it is handed, nor the spare room behind its updates, whether it takes it or not.
func TestHandedInStays(t *testing.T) {
	fresh := func() []api.Update {
		return list(set("a", 1), put("b", "x"), api.Update{Key: "c", Kind: 6}, del("spare"), del("room"))
	}
	for origin := range 4 {
		for number := range 4 {
			for many := range 6 {
				l, room := New(2), fresh()
				for range 2 {
					l.Add(api.Round{Origin: origin, Number: number, Updates: room[:many]})
				}
				for _, r := range l.All() {
					spoil(r)
				}
				if !slices.Equal(room, fresh()) {
					t.Errorf("%d.%d of %d updates: %v", origin, number, many, room)
				}
			}
		}
	}
}

// TestAnswersAreTheCallers is P14.3 and rule 5: what the caller does with a round that At told, or with All's list and its rounds, shows nowhere.
func TestAnswersAreTheCallers(t *testing.T) {
	want := mixed(9)
	l := made(t, 5, want...)
	for i := range want {
		one, _ := l.At(i)
		other, _ := l.At(i)
		spoil(one)
		if !same(other, want[i]) {
			t.Errorf("At, asked again: %v", other)
		}
		has(t, "behind a change of what At told", l, want)
	}
	one, other := l.All(), l.All()
	for i := range one {
		spoil(one[i])
		if !slices.EqualFunc(one[i+1:], want[i+1:], same) {
			t.Errorf("two rounds of All share a list: %v", one)
		}
		one[i] = of(9, 99)
	}
	room := one[:cap(one)]
	for i := range room {
		room[i] = of(7, 77)
	}
	_ = append(one, of(6, 66))
	if !slices.EqualFunc(other, want, same) {
		t.Errorf("All, asked again: %v", other)
	}
	has(t, "behind a change of what All told", l, want)
	next := ordinary(3, l.Last(3)+1)
	takes(t, l, next)
	has(t, "one round more", l, append(want, next))
}

// TestOneAnswerStays: what one call told stays as it is, whatever is done with what the others told.
func TestOneAnswerStays(t *testing.T) {
	want := ordinary(1, 1)
	l := made(t, 1, want)
	at, _ := l.At(0)
	again, _ := l.At(0)
	all := []api.Round{at, l.All()[0], again, l.All()[0]}
	for i, r := range all {
		if !same(r, want) {
			t.Errorf("answer %d: %v", i, r)
		}
		spoil(r)
		for _, later := range all[i+1:] {
			if !same(later, want) {
				t.Errorf("behind a change of answer %d: %v", i, later)
			}
		}
	}
	has(t, "behind changes of all", l, []api.Round{want})
}

// TestTwoLogs is P14.1 to P14.3: two show nothing of each other.
func TestTwoLogs(t *testing.T) {
	one, other := New(3), New(3)
	takes(t, one, ordinary(1, 1), ordinary(3, 1), ordinary(1, 2))
	has(t, "the other one", other, nil)
	has(t, "one made later", New(3), nil)
	refuses(t, other, ordinary(1, 3), api.ErrOrder)
	refuses(t, other, ordinary(1, 2), api.ErrOrder)
	takes(t, other, ordinary(3, 1), ordinary(1, 1), ordinary(3, 2))
	has(t, "the one", one, []api.Round{ordinary(1, 1), ordinary(3, 1), ordinary(1, 2)})
	refuses(t, one, ordinary(1, 1), api.ErrTwice)
	takes(t, one, ordinary(3, 2))
	has(t, "the other one", other, []api.Round{ordinary(3, 1), ordinary(1, 1), ordinary(3, 2)})

	few, many := New(2), New(64)
	r := ordinary(2, 1)
	takes(t, few, r)
	takes(t, many, r, ordinary(64, 1))
	refuses(t, few, ordinary(64, 1), api.ErrNone)
	for _, x := range append(few.All(), many.All()...) {
		spoil(x)
	}
	has(t, "of 2", few, []api.Round{ordinary(2, 1)})
	has(t, "of 64", many, []api.Round{ordinary(2, 1), ordinary(64, 1)})
	for _, x := range few.All() { // what one told may come to the other one
		refuses(t, many, x, api.ErrTwice)
	}
	for _, x := range many.All() {
		few.Add(x)
	}
	has(t, "of 2", few, []api.Round{ordinary(2, 1)})
}

// TestRoundsCanGo: each round has bytes, of which it is got again (layer 7).
func TestRoundsCanGo(t *testing.T) {
	l := New(64)
	for i, updates := range goodLists() {
		takes(t, l, of(64, i+1, updates...))
	}
	for _, r := range l.All() {
		b, e := round.Put(r)
		got, e2 := round.Get(b)
		if e != api.OK || e2 != api.OK || !round.Same(got, r) {
			t.Errorf("%v: put %d, got %v %d", r, e, got, e2)
		}
	}
}

// TestTextsAreNew: the texts that are told are memory of their own, so that none of them keeps a longer one.
func TestTextsAreNew(t *testing.T) {
	long := strings.Repeat("0123456789", 100)
	l := New(1)
	takes(t, l, of(1, 1, put(long[:10], long[20:40])))
	at, _ := l.At(0)
	seen := map[*byte]bool{unsafe.StringData(long): true, unsafe.StringData(long[20:]): true}
	for i, r := range []api.Round{at, l.All()[0], l.All()[0]} {
		for _, s := range []string{r.Updates[0].Key, r.Updates[0].S} {
			if p := unsafe.StringData(s); seen[p] {
				t.Errorf("answer %d: %q is told from elsewhere", i, s)
			} else {
				seen[p] = true
			}
		}
	}
}
