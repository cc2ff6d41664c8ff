package round

import (
	"math"
	"slices"
	"strings"
	"testing"
	"unsafe"

	"chapbook/api"
	"chapbook/update"
	"chapbook/value"
)

const (
	least    = -1 << 61 // of the numbers that an update may have
	greatest = 1<<61 - 1
	last     = 1 << 40 // of the numbers that a round may have
	ahead    = 11      // bytes of an Origin of 64, a Number of 2^40, and how many updates
)

// The edges of an update's texts.
const (
	key16  = "\x00\xff234567890abcde"
	text32 = "\xff234567890123456789012345678901\x00"
	key17  = "12345678901234567"
	text33 = "123456789012345678901234567890123"
)

// set, put, add, app and del make updates.
func set(key string, n int64) api.Update { return api.Update{Key: key, Kind: api.USet, N: n} }
func put(key, s string) api.Update       { return api.Update{Key: key, Kind: api.UText, S: s} }
func add(key string, n int64) api.Update { return api.Update{Key: key, Kind: api.UAdd, N: n} }
func app(key, s string) api.Update       { return api.Update{Key: key, Kind: api.UAppend, S: s} }
func del(key string) api.Update          { return api.Update{Key: key, Kind: api.UDelete} }

// of makes a round.
func of(origin, number int, l ...api.Update) api.Round {
	return api.Round{Origin: origin, Number: number, Updates: l}
}

// times: an update, so many times.
func times(u api.Update, n int) []api.Update { return slices.Repeat([]api.Update{u}, n) }

// same tells by its own means whether two rounds are alike, so that Same isn't tested by itself.
func same(a, b api.Round) bool {
	if a.Origin != b.Origin || a.Number != b.Number || len(a.Updates) != len(b.Updates) {
		return false
	}
	for i, u := range a.Updates {
		if u != b.Updates[i] {
			return false
		}
	}
	return true
}

// known is a round that may be, and its bytes.
type known struct {
	r     api.Round
	bytes string
}

// examples: rounds with bytes that are written out: the document's, ordinary ones with updates of each Kind, and the edges.
func examples() []known {
	return []known{
		{of(1, 2, del("k")), "\x01\x02\x01\x05\x01\x6b"},
		{of(64, 300, add("a", 1), put("b", "x")), "\x40\x40\x41\x2c\x02\x03\x01a\x02\x02\x01b\x01x"},
		{of(3, 7, set("a", 3), put("name", "Ann"), add("count", -5), app("ab", "xyz"), del("gone")),
			"\x03\x07\x05\x01\x01a\x06\x02\x04name\x03Ann\x03\x05count\x09\x04\x02ab\x03xyz\x05\x04gone"},
		{of(1, 1, set("k", 0)), "\x01\x01\x01\x01\x01k\x00"},
		{of(64, 1, del("k")), "\x40\x40\x01\x01\x05\x01k"},
		{of(63, 63, del("k")), "\x3f\x3f\x01\x05\x01k"},
		{of(1, 64, del("k")), "\x01\x40\x40\x01\x05\x01k"},
		{of(1, 1<<14-1, del("k")), "\x01\x7f\xff\x01\x05\x01k"},
		{of(1, 1<<14, del("k")), "\x01\x80\x00\x40\x00\x01\x05\x01k"},
		{of(1, 1<<30-1, del("k")), "\x01\xbf\xff\xff\xff\x01\x05\x01k"},
		{of(1, 1<<30, del("k")), "\x01\xc0\x00\x00\x00\x40\x00\x00\x00\x01\x05\x01k"},
		{of(1, last-1, del("k")), "\x01\xc0\x00\x00\xff\xff\xff\xff\xff\x01\x05\x01k"},
		{of(1, last, del("k")), "\x01\xc0\x00\x01\x00\x00\x00\x00\x00\x01\x05\x01k"},
		{of(64, last, times(del("k"), 8)...), "\x40\x40\xc0\x00\x01\x00\x00\x00\x00\x00\x08" + strings.Repeat("\x05\x01k", 8)},
		{of(64, last, times(app(key16, text32), 8)...), "\x40\x40\xc0\x00\x01\x00\x00\x00\x00\x00\x08" + strings.Repeat("\x04\x10"+key16+"\x20"+text32, 8)},
		{of(2, 5, put("k", ""), app("\x00", ""), put(key16, text32), app("\xff", text32)),
			"\x02\x05\x04\x02\x01k\x00\x04\x01\x00\x00\x02\x10" + key16 + "\x20" + text32 + "\x04\x01\xff\x20" + text32},
		{of(2, 5, set("k", least), set("k", greatest), add(key16, least), add("k", greatest), del(key16)),
			"\x02\x05\x05\x01\x01k\xff\xff\xff\xff\xff\xff\xff\xff\x01\x01k\xff\xff\xff\xff\xff\xff\xff\xfe\x03\x10" + key16 + "\xff\xff\xff\xff\xff\xff\xff\xff\x03\x01k\xff\xff\xff\xff\xff\xff\xff\xfe\x05\x10" + key16},
	}
}

// refused is a thing that may not be, and why.
type refused[T any] struct {
	it T
	e  api.Errno
}

// noUpdates: updates that may not be, with each error that value.May has, and with several faults at once.
func noUpdates() []refused[api.Update] {
	return []refused[api.Update]{
		{api.Update{}, api.ErrRange},
		{del(""), api.ErrRange},
		{set(key17, 1), api.ErrRange},
		{api.Update{Key: "k"}, api.ErrKind},
		{api.Update{Key: "k", Kind: 6}, api.ErrKind},
		{api.Update{Key: "k", Kind: -1}, api.ErrKind},
		{api.Update{Key: "k", Kind: math.MinInt, N: 1, S: text33}, api.ErrKind},
		{api.Update{Key: "k", Kind: api.USet, S: "x"}, api.ErrForm},
		{api.Update{Key: "k", Kind: api.UText, N: 1}, api.ErrForm},
		{api.Update{Key: "k", Kind: api.UAdd, N: greatest + 1, S: "x"}, api.ErrForm},
		{api.Update{Key: "k", Kind: api.UAppend, N: -1, S: text33}, api.ErrForm},
		{api.Update{Key: "k", Kind: api.UDelete, N: 1}, api.ErrForm},
		{api.Update{Key: "k", Kind: api.UDelete, S: "x"}, api.ErrForm},
		{set("k", least-1), api.ErrRange},
		{set("k", math.MaxInt64), api.ErrRange},
		{add("k", greatest+1), api.ErrRange},
		{add("k", math.MinInt64), api.ErrRange},
		{put("k", text33), api.ErrRange},
		{app("k", text33), api.ErrRange},
	}
}

// noRounds: each way in which a round may not be, but by one of its updates alone.
func noRounds() []refused[api.Round] {
	formless := api.Update{Key: "k", Kind: api.UDelete, N: 1}
	unkind := api.Update{Key: "k", Kind: 6}
	l := []refused[api.Round]{
		{api.Round{}, api.ErrRange},
		{of(1, 1), api.ErrRange},
		{api.Round{Origin: 1, Number: 1, Updates: []api.Update{}}, api.ErrRange},
		{of(1, 1, times(del("k"), 9)...), api.ErrRange},
		{of(1, 1, times(del("k"), 1000)...), api.ErrRange},
		{of(1, 1, times(unkind, 9)...), api.ErrRange},
		{of(0, 1, formless), api.ErrRange},
		{of(1, 0, unkind), api.ErrRange},
		{of(65, last+1, times(formless, 9)...), api.ErrRange},
		{of(-1, -1, unkind), api.ErrRange},
		{of(0, 0), api.ErrRange},
		{of(1, 1, formless, unkind), api.ErrForm},
		{of(1, 1, unkind, formless), api.ErrKind},
		{of(1, 1, del("k"), formless, set("k", 1), unkind, del("")), api.ErrForm},
		{of(1, 1, del("k"), del(""), formless, unkind), api.ErrRange},
	}
	for _, origin := range []int{0, -1, 65, 66, 1 << 32, 1<<32 + 1, math.MinInt, math.MaxInt} {
		l = append(l, refused[api.Round]{of(origin, 1, del("k")), api.ErrRange})
	}
	for _, number := range []int{0, -1, last + 1, last + 2, 2 * last, math.MinInt, math.MaxInt} {
		l = append(l, refused[api.Round]{of(1, number, del("k")), api.ErrRange})
	}
	return l
}

// allNoRounds: these, and those with an update that may not be at each place of each number of updates.
func allNoRounds() []refused[api.Round] {
	l := noRounds()
	for _, x := range noUpdates() {
		for many := 1; many <= 8; many++ {
			for place := range many {
				r := of(1, 1, times(set("k", 1), many)...)
				r.Updates[place] = x.it
				l = append(l, refused[api.Round]{r, x.e})
			}
		}
	}
	return l
}

// checkMay looks what May answers.
func checkMay(t *testing.T, r api.Round, want api.Errno) {
	t.Helper()
	if e := May(r); e != want {
		t.Errorf("May %v: %d, not %d", r, e, want)
	}
}

// checkPut looks what Put answers.
func checkPut(t *testing.T, r api.Round, want string, wantErr api.Errno) {
	t.Helper()
	if b, e := Put(r); b != want || e != wantErr {
		t.Errorf("Put %v: %x %d, not %x %d", r, b, e, want, wantErr)
	}
}

// checkGet looks what Get answers.
func checkGet(t *testing.T, b string, want api.Round, wantErr api.Errno) {
	t.Helper()
	if r, e := Get(b); !same(r, want) || e != wantErr {
		t.Errorf("Get %x: %v %d, not %v %d", b, r, e, want, wantErr)
	}
}

// checkNoGet looks whether Get answers that error, and no round.
func checkNoGet(t *testing.T, b string, want api.Errno) {
	t.Helper()
	checkGet(t, b, api.Round{}, want)
}

// TestMay is P7.1: the rounds that may be.
func TestMay(t *testing.T) {
	for _, x := range examples() {
		checkMay(t, x.r, api.OK)
	}
	for origin := -70; origin <= 140; origin++ {
		want := api.ErrRange
		if origin >= 1 && origin <= 64 {
			want = api.OK
		}
		checkMay(t, of(origin, 1, del("k")), want)
	}
	for many := range 20 {
		want := api.ErrRange
		if many >= 1 && many <= 8 {
			want = api.OK
		}
		checkMay(t, of(1, 1, times(del("k"), many)...), want)
	}
}

// TestPut is P7.1: the bytes of a round's fields.
func TestPut(t *testing.T) {
	for _, x := range examples() {
		checkPut(t, x.r, x.bytes, api.OK)
	}
}

// TestPutOfUpdates is P7.1: each number of updates, each with the bytes that layer 6 puts, in their order.
func TestPutOfUpdates(t *testing.T) {
	l := []api.Update{set("a", 1), put("b", "x"), add("c", -1), app("d", ""), del("e"), set(key16, least), put("f", text32), del(key16)}
	bytes := ""
	for i, u := range l {
		b, e := update.Put(u)
		if e != api.OK {
			t.Fatalf("%v: %d", u, e)
		}
		bytes += b
		checkPut(t, of(5, 6, l[:i+1]...), "\x05\x06"+string([]byte{byte(i + 1)})+bytes, api.OK)
	}
}

// TestRefused is P7.1: why a round may not be; Put tells the same, and has no bytes.
func TestRefused(t *testing.T) {
	for _, x := range noUpdates() {
		if e := value.May(x.it); e != x.e {
			t.Errorf("%v: value.May tells %d, not %d", x.it, e, x.e)
		}
	}
	for _, x := range allNoRounds() {
		checkMay(t, x.it, x.e)
		checkPut(t, x.it, "", x.e)
	}
}

// TestFirstUpdatesError is P7.1: of two updates that may not be, with errors of their own, the first one's is told, at all places.
func TestFirstUpdatesError(t *testing.T) {
	wrong := noUpdates()
	for first := range 8 {
		for second := first + 1; second < 8; second++ {
			for i, x := range wrong {
				r := of(64, last, times(put("k", "x"), 8)...)
				r.Updates[first] = x.it
				r.Updates[second] = wrong[(i+5)%len(wrong)].it
				checkMay(t, r, x.e)
				checkPut(t, r, "", x.e)
			}
		}
	}
}

// TestGet is P7.2: the round whose bytes these are.
func TestGet(t *testing.T) {
	for _, x := range examples() {
		checkGet(t, x.bytes, x.r, api.OK)
	}
}

// TestGetCut is P7.2: no bytes, and a round's bytes cut at each place, are ErrCut.
func TestGetCut(t *testing.T) {
	checkNoGet(t, "", api.ErrCut)
	for _, x := range examples() {
		for i := range len(x.bytes) {
			checkNoGet(t, x.bytes[:i], api.ErrCut)
		}
	}
}

// TestGetWithMore is P7.2: with bytes behind a round, End's error.
func TestGetWithMore(t *testing.T) {
	for _, x := range examples() {
		for _, more := range []string{"\x00", "k", "\xff", "\x40\x01", "\x05\x01k", x.bytes} {
			checkNoGet(t, x.bytes+more, api.ErrMore)
		}
	}
}

// numbers: for each of the three: bytes of 0, of ones above its bound, and of such that are longer than they need be.
func numbers() [3][]refused[string] {
	common := []refused[string]{
		{"\x00", api.ErrRange},
		{"\xff\xff\xff\xff\xff\xff\xff\xff", api.ErrRange},
		{"\xc0\x00\x01\x00\x00\x00\x00\x01", api.ErrRange}, // 2^40 + 1
		{"\x40\x00", api.ErrLong},
		{"\x40\x01", api.ErrLong},
		{"\x40\x3f", api.ErrLong},
		{"\x80\x00\x00\x01", api.ErrLong},
		{"\x80\x00\x00\x40", api.ErrLong},
		{"\xc0\x00\x00\x00\x00\x00\x00\x00", api.ErrLong},
		{"\xc0\x00\x00\x00\x00\x00\x00\x01", api.ErrLong},
	}
	small := append(slices.Clip(common),
		refused[string]{"\x40\x41", api.ErrRange}, // 65
		refused[string]{"\x80\x00\x40\x00", api.ErrRange},
		refused[string]{"\xc0\x00\x01\x00\x00\x00\x00\x00", api.ErrRange})
	least := append(slices.Clip(small),
		refused[string]{"\x09", api.ErrRange},
		refused[string]{"\x3f", api.ErrRange},
		refused[string]{"\x40\x40", api.ErrRange})
	return [3][]refused[string]{small, common, least}
}

// TestGetWrongNumbers is P7.2: each of the three wrong, whatever stands behind it; of two, the first one's error.
func TestGetWrongNumbers(t *testing.T) {
	for place, l := range numbers() {
		front := strings.Repeat("\x01", place)
		for _, x := range l {
			for _, behind := range []string{"", "\x00", "\x01", "\x01\x01\x01\x05\x01k", "\x05\x01k", "\x40\x01", "\x40", "\xff", "\x00\x01k", "\x06"} {
				checkNoGet(t, front+x.it+behind, x.e)
			}
			checkNoGet(t, front+x.it+strings.Repeat("\x01", 2-place)+"\x05\x01k", x.e)
			checkNoGet(t, front+x.it+strings.Repeat("\x01", 2-place)+"\x05\x01kk", x.e)
		}
	}
	for first, l := range numbers() {
		for second := first + 1; second < 3; second++ {
			for _, x := range l {
				for _, y := range numbers()[second] {
					b := [3]string{"\x01", "\x01", "\x01"}
					b[first], b[second] = x.it, y.it
					checkNoGet(t, b[0]+b[1]+b[2]+"\x05\x01k", x.e)
				}
			}
		}
	}
}

// TestGetBounds is P7.2: each of the three from 0 to above its bound.
func TestGetBounds(t *testing.T) {
	for n := range 64 {
		b := string([]byte{byte(n)})
		if n == 0 {
			checkNoGet(t, b+"\x01\x01\x05\x01k", api.ErrRange)
			checkNoGet(t, "\x01"+b+"\x01\x05\x01k", api.ErrRange)
		} else {
			checkGet(t, b+"\x01\x01\x05\x01k", of(n, 1, del("k")), api.OK)
			checkGet(t, "\x01"+b+"\x01\x05\x01k", of(1, n, del("k")), api.OK)
		}
		all := "\x01\x01" + b + strings.Repeat("\x05\x01k", n)
		if n == 0 || n > 8 {
			checkNoGet(t, all, api.ErrRange)
		} else {
			checkGet(t, all, of(1, 1, times(del("k"), n)...), api.OK)
			checkNoGet(t, all[:len(all)-3], api.ErrCut)
			checkNoGet(t, all+"\x05\x01k", api.ErrMore)
		}
	}
	checkGet(t, "\x40\x40\x01\x01\x05\x01k", of(64, 1, del("k")), api.OK)
	checkNoGet(t, "\x40\x41\x01\x01\x05\x01k", api.ErrRange)
}

// wrongUpdates: bytes at which no update stands, and why.
func wrongUpdates() []refused[string] {
	return []refused[string]{
		{"\x00\x01k", api.ErrKind},
		{"\x06\x01k", api.ErrRange},
		{"\x40\x05\x01k", api.ErrLong},
		{"\x05\x00", api.ErrRange},
		{"\x05\x11" + key17, api.ErrRange},
		{"\x05\x40\x01k", api.ErrLong},
		{"\x01\x01k\x40\x06", api.ErrLong},
		{"\x02\x01k\x21" + text33, api.ErrRange},
		{"\x04\x01k\x40\x01x", api.ErrLong},
		{"\x00\x00", api.ErrKind},
	}
}

// TestGetWrongUpdates is P7.2: a wrong update at each place; of two, the first one's error; and what else is missing, or too much, isn't told then.
func TestGetWrongUpdates(t *testing.T) {
	const good = "\x01\x01k\x02"
	for many := 1; many <= 8; many++ {
		head := "\x40\x40\x01" + string([]byte{byte(many)})
		for place := range many {
			for i, x := range wrongUpdates() {
				front := head + strings.Repeat(good, place) + x.it
				rest := many - place - 1
				checkNoGet(t, front+strings.Repeat(good, rest), x.e)
				checkNoGet(t, front+strings.Repeat(good, rest+1), x.e)
				checkNoGet(t, front, x.e)
				next := wrongUpdates()[(i+1)%len(wrongUpdates())]
				checkNoGet(t, front+next.it+strings.Repeat(good, rest), x.e)
				if rest > 0 {
					checkNoGet(t, head+strings.Repeat(good, place)+good+next.it+strings.Repeat(good, rest-1), next.e)
				}
			}
		}
	}
}

// many: rounds that may be: each Origin, Numbers about each power of 2, and updates of each Kind and length.
func many() []api.Round {
	l := []api.Round{}
	for i := range 256 {
		c := string([]byte{byte(i)})
		key, s := strings.Repeat(c, i%16+1), strings.Repeat(c, i%33)
		us := []api.Update{set(key, int64(i)), put(key, s), add(key, -int64(i)), app(key, s), del(key), set(c, least), add(c, greatest), put(c, "")}
		l = append(l, of(i%64+1, i+1, us[:i%8+1]...), of(64-i%64, last-i, us[i%8:]...))
	}
	for bit := range 41 {
		for d := -1; d <= 1; d++ {
			l = append(l, of(bit+1, min(max(1<<bit+d, 1), last), add("k", int64(d)), del("k")))
		}
	}
	return l
}

// TestPutIsGot is P7.3.
func TestPutIsGot(t *testing.T) {
	for _, r := range many() {
		b, e := Put(r)
		if e != api.OK {
			t.Fatalf("Put %v: %d", r, e)
		}
		checkGet(t, b, r, api.OK)
	}
}

// checkGotIsPut looks whether bytes, if they are a round's, are those that it is put as; whether they were.
func checkGotIsPut(t *testing.T, b string) bool {
	t.Helper()
	r, e := Get(b)
	if e != api.OK {
		if !same(r, api.Round{}) {
			t.Errorf("%x: %v beside %d", b, r, e)
		}
		return false
	}
	checkMay(t, r, api.OK)
	checkPut(t, r, b, api.OK)
	return true
}

// TestGotIsPut is P7.3: of texts out of some telling bytes, and of examples with one byte changed.
func TestGotIsPut(t *testing.T) {
	got := 0
	var try func(b string, more int)
	try = func(b string, more int) {
		if checkGotIsPut(t, b) {
			got++
		}
		if more == 0 {
			return
		}
		for _, c := range []byte("\x00\x01\x02\x05\x06\x09\x40\x80\xff") {
			try(b+string([]byte{c}), more-1)
		}
	}
	try("", 6)
	for _, x := range examples() {
		for i := range len(x.bytes) {
			for c := range 256 {
				try(x.bytes[:i]+string([]byte{byte(c)})+x.bytes[i+1:], 0)
			}
		}
	}
	if got < 1000 {
		t.Errorf("just %d rounds were got", got)
	}
}

// sizes: updates with the bytes that they have in a round.
func sizes() []struct {
	l []api.Update
	n int
} {
	return []struct {
		l []api.Update
		n int
	}{
		{times(put("k", "123456789"), 1), 13}, // the most that 64 carries
		{times(app(key16, ""), 1), 19},
		{times(del("k"), 4), 12},
		{times(del("k"), 5), 15},
		{times(del("k"), 8), 24},
		{times(set("k", 31), 3), 12},
		{times(set("k", 32), 3), 15},
		{times(add("k", least), 8), 88},
		{times(app("k", text32), 1), 36},
		{times(put(key16, text32), 1), 51},
		{times(put(key16, text32), 7), 357},
		{times(put(key16, text32), 8), 408}, // the longest of all
		{[]api.Update{set("a", 1), put("b", "xy"), add("c", -33), app("d", ""), del("e")}, 22},
	}
}

// TestFits is P7.4: with each mtu, just whether the round has at most mtu less 40 bytes.
func TestFits(t *testing.T) {
	for _, x := range sizes() {
		for mtu := -2; mtu <= 1500; mtu++ {
			want := mtu >= 64 && mtu <= 1400 && ahead+x.n <= mtu-40
			if got := Fits(x.l, mtu); got != want {
				t.Errorf("Fits %v %d: %t", x.l, mtu, got)
			}
		}
	}
}

// TestFitsAtTheEdges is P7.4: nothing left, one byte too few, and which mtu there are.
func TestFitsAtTheEdges(t *testing.T) {
	longest := times(put(key16, text32), 8)
	for _, x := range []struct {
		l    []api.Update
		mtu  int
		want bool
	}{
		{times(put("k", "123456789"), 1), 64, true},
		{times(put("k", "1234567890"), 1), 64, false},
		{times(put("k", "1234567890"), 1), 65, true},
		{times(del("k"), 4), 64, true},
		{times(del("k"), 5), 64, false},
		{times(del("k"), 5), 65, false},
		{times(del("k"), 5), 66, true},
		{longest, 458, false},
		{longest, 459, true},
		{longest, 1400, true},
		{longest, 1401, false},
		{times(del("k"), 1), 64, true},
		{times(del("k"), 1), 63, false},
		{times(del("k"), 1), 1400, true},
		{times(del("k"), 1), 1401, false},
		{times(del("k"), 1), 0, false},
		{times(del("k"), 1), -1, false},
		{times(del("k"), 1), -64, false},
		{times(del("k"), 1), math.MinInt, false},
		{times(del("k"), 1), math.MinInt + 39, false},
		{times(del("k"), 1), math.MaxInt, false},
	} {
		if got := Fits(x.l, x.mtu); got != x.want {
			t.Errorf("Fits %v %d: %t", x.l, x.mtu, got)
		}
	}
}

// TestFitsOfWhatMayNotBe is P7.4: no updates, too many, and such that may not be, at each place, fit nowhere.
func TestFitsOfWhatMayNotBe(t *testing.T) {
	lists := [][]api.Update{nil, {}, times(del("k"), 9), times(del("k"), 1000)}
	for _, x := range noUpdates() {
		for many := 1; many <= 8; many++ {
			for place := range many {
				l := times(del("k"), many)
				l[place] = x.it
				lists = append(lists, l)
			}
		}
	}
	for _, l := range lists {
		for _, mtu := range []int{63, 64, 459, 1400, 1401} {
			if Fits(l, mtu) {
				t.Errorf("Fits %v %d", l, mtu)
			}
		}
	}
}

// TestSame is P7.4: which rounds are the same, and which differ, whether they may be or not.
func TestSame(t *testing.T) {
	l := []api.Round{{}, of(0, 1), of(1, 0), of(1, 1), of(-1, 1), of(1, -1), of(math.MaxInt, math.MinInt)}
	for _, x := range allNoRounds() {
		l = append(l, x.it)
	}
	l = append(l, many()...)
	for _, x := range examples() {
		l = append(l, x.r)
	}
	for i, a := range l {
		for k, b := range l {
			if i%7 != 0 && i != k { // all pairs would be slow
				continue
			}
			if got := Same(a, b); got != same(a, b) {
				t.Errorf("Same %v %v: %t", a, b, got)
			}
		}
	}
}

// TestSameWithOneChange is P7.4: rounds that differ in just one thing differ, either way round.
func TestSameWithOneChange(t *testing.T) {
	made := func() api.Round {
		return of(2, 3, set("a", 1), put("b", "x"), add("c", -1), app("d", "y"), del("e"))
	}
	differ := func(name string, b api.Round) {
		t.Helper()
		if Same(made(), b) || Same(b, made()) {
			t.Errorf("%s: the same", name)
		}
	}
	if !Same(made(), made()) {
		t.Error("a round isn't the same as itself")
	}
	for name, change := range map[string]func(*api.Round){
		"Origin":       func(r *api.Round) { r.Origin++ },
		"Number":       func(r *api.Round) { r.Number-- },
		"both, turned": func(r *api.Round) { r.Origin, r.Number = r.Number, r.Origin },
		"one more":     func(r *api.Round) { r.Updates = append(r.Updates, del("e")) },
		"a zero more":  func(r *api.Round) { r.Updates = append(r.Updates, api.Update{}) },
		"without last": func(r *api.Round) { r.Updates = r.Updates[:4] },
		"without one":  func(r *api.Round) { r.Updates = r.Updates[1:] },
		"none":         func(r *api.Round) { r.Updates = nil },
		"order":        func(r *api.Round) { slices.Reverse(r.Updates) },
		"two turned":   func(r *api.Round) { r.Updates[3], r.Updates[4] = r.Updates[4], r.Updates[3] },
	} {
		b := made()
		change(&b)
		differ(name, b)
	}
	for i := range 5 {
		for name, change := range map[string]func(*api.Update){
			"Key":         func(u *api.Update) { u.Key = strings.ToUpper(u.Key) },
			"longer Key":  func(u *api.Update) { u.Key += "\x00" },
			"shorter Key": func(u *api.Update) { u.Key = "" },
			"Kind":        func(u *api.Update) { u.Kind = u.Kind%5 + 1 },
			"N":           func(u *api.Update) { u.N++ },
			"great N":     func(u *api.Update) { u.N += 1 << 32 },
			"S":           func(u *api.Update) { u.S += "z" },
		} {
			b := made()
			change(&b.Updates[i])
			differ(name, b)
		}
	}
}

// TestSameWithoutUpdates is rule 4: nil and an empty list are one.
func TestSameWithoutUpdates(t *testing.T) {
	a, b := of(1, 2), api.Round{Origin: 1, Number: 2, Updates: []api.Update{}}
	if !Same(a, b) || !Same(b, a) || !Same(api.Round{}, api.Round{}) {
		t.Error("no updates aren't the same")
	}
}

// TestCopy is P7.4: the same, of rounds that may be, and of others.
func TestCopy(t *testing.T) {
	l := []api.Round{{}, of(1, 2), of(math.MinInt, math.MaxInt, times(put(text33, strings.Repeat("x", 5000)), 100)...)}
	for _, x := range allNoRounds() {
		l = append(l, x.it)
	}
	for _, x := range examples() {
		l = append(l, x.r)
	}
	for _, r := range l {
		if c := Copy(r); !same(c, r) || !Same(c, r) {
			t.Errorf("Copy %v: %v", r, c)
		}
	}
}

// TestCopySharesNothing is P7.4: nothing that is done to the one shows in the other, nor in the room behind its list, nor in its texts' memory.
func TestCopySharesNothing(t *testing.T) {
	key, s := []byte("key"), []byte("text")
	room := []api.Update{put(unsafe.String(&key[0], len(key)), unsafe.String(&s[0], len(s))), del("b"), set("behind", 3)}
	r, want := of(1, 2, room[:2]...), of(1, 2, put("key", "text"), del("b"))
	changed, kept := Copy(r), Copy(r)
	_ = append(changed.Updates, del("more"))
	changed.Updates[0], changed.Updates[1] = add("y", 1), add("z", 1)
	if !same(r, want) || !same(kept, want) || room[2] != set("behind", 3) {
		t.Errorf("behind changes of a copy: %v, %v, %v", r, kept, room[2])
	}
	clear(key)
	clear(s)
	clear(room)
	if !same(kept, want) {
		t.Errorf("behind changes of the round: %v", kept)
	}
}

// TestCopyIsWhole is P7.4: each update of the copy is its own.
func TestCopyIsWhole(t *testing.T) {
	for _, x := range examples() {
		r, bytes := x.r, x.bytes
		c := Copy(r)
		for i := range c.Updates {
			c.Updates[i] = del("changed")
		}
		checkPut(t, r, bytes, api.OK)
		c = Copy(r)
		for i := range r.Updates {
			r.Updates[i] = del("changed")
		}
		checkPut(t, c, bytes, api.OK)
	}
}

// TestAnswersAreNew is rule 5: what Put and Get answer shares no memory with what was handed in, nor with another answer.
func TestAnswersAreNew(t *testing.T) {
	const bytes = "\x01\x02\x02\x02\x03key\x04text\x05\x01k"
	want := of(1, 2, put("key", "text"), del("k"))
	handed := []byte(bytes)
	a, e := Get(unsafe.String(&handed[0], len(handed)))
	b, _ := Get(bytes)
	b.Updates[0] = del("x")
	clear(handed)
	if !same(a, want) || e != api.OK {
		t.Errorf("Get: %v %d", a, e)
	}
	key, s := []byte("key"), []byte("text")
	r := of(1, 2, put(unsafe.String(&key[0], len(key)), unsafe.String(&s[0], len(s))), del("k"))
	got, e := Put(r)
	clear(key)
	clear(s)
	if got != bytes || e != api.OK {
		t.Errorf("Put: %x %d", got, e)
	}
}

// TestHandedInStays is rule 5: no call changes a list that it is handed, nor its spare room.
func TestHandedInStays(t *testing.T) {
	made := func() []api.Update {
		return []api.Update{set("a", 1), put("b", "x"), {Key: "c", Kind: 6}, del("spare"), del("room")}
	}
	for many := range 4 {
		room := made()
		r := of(1, 2, room[:many]...)
		May(r)
		Put(r)
		Fits(room[:many], 64)
		Same(r, r)
		Copy(r)
		if !slices.Equal(room, made()) {
			t.Errorf("of %d updates: %v", many, room)
		}
	}
}
