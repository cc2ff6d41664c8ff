package update

import (
	"math"
	"strings"
	"testing"
	"unsafe"

	"chapbook/api"
	"chapbook/pack"
	"chapbook/value"
)

const (
	least    = -1 << 61 // of the numbers that an update may have
	greatest = 1<<61 - 1
)

var none = api.Update{}

// set, put, add, app and del make updates.
func set(key string, n int64) api.Update { return api.Update{Key: key, Kind: api.USet, N: n} }
func put(key, s string) api.Update       { return api.Update{Key: key, Kind: api.UText, S: s} }
func add(key string, n int64) api.Update { return api.Update{Key: key, Kind: api.UAdd, N: n} }
func app(key, s string) api.Update       { return api.Update{Key: key, Kind: api.UAppend, S: s} }
func del(key string) api.Update          { return api.Update{Key: key, Kind: api.UDelete} }

// known is an update that may be, and its bytes.
type known struct {
	u     api.Update
	bytes string
}

// examples: updates with bytes that are written out: the document's, ordinary ones of each Kind, and the edges.
func examples() []known {
	key16 := "\x00\xff234567890abcde"
	text32 := "\xff" + strings.Repeat("t", 30) + "\x00"
	return []known{
		{set("a", 3), "\x01\x01\x61\x06"},
		{del("k"), "\x05\x01\x6b"},
		{set("ab", -40), "\x01\x02ab\x40\x4f"},
		{put("name", "Ann"), "\x02\x04name\x03Ann"},
		{add("count", 5), "\x03\x05count\x0a"},
		{app("ab", "xyz"), "\x04\x02ab\x03xyz"},
		{del("gone"), "\x05\x04gone"},
		{set("\x00", 0), "\x01\x01\x00\x00"},
		{add("\xff", 0), "\x03\x01\xff\x00"},
		{del("\x00"), "\x05\x01\x00"},
		{put("\xff", "\x00"), "\x02\x01\xff\x01\x00"},
		{app("\x00", "\xff"), "\x04\x01\x00\x01\xff"},
		{set(key16, 1), "\x01\x10" + key16 + "\x02"},
		{put(key16, text32), "\x02\x10" + key16 + "\x20" + text32},
		{add(key16, -1), "\x03\x10" + key16 + "\x01"},
		{app(key16, text32), "\x04\x10" + key16 + "\x20" + text32},
		{del(key16), "\x05\x10" + key16},
		{set("k", 31), "\x01\x01k\x3e"},
		{set("k", -32), "\x01\x01k\x3f"},
		{set("k", 32), "\x01\x01k\x40\x40"},
		{add("k", 1<<13), "\x03\x01k\x80\x00\x40\x00"},
		{add("k", -1<<13), "\x03\x01k\x7f\xff"},
		{add("k", 1<<29), "\x03\x01k\xc0\x00\x00\x00\x40\x00\x00\x00"},
		{set("k", least), "\x01\x01k\xff\xff\xff\xff\xff\xff\xff\xff"},
		{set("k", greatest), "\x01\x01k\xff\xff\xff\xff\xff\xff\xff\xfe"},
		{add("k", least), "\x03\x01k\xff\xff\xff\xff\xff\xff\xff\xff"},
		{add("k", greatest), "\x03\x01k\xff\xff\xff\xff\xff\xff\xff\xfe"},
		{put("k", ""), "\x02\x01k\x00"},
		{put("k", "x"), "\x02\x01k\x01x"},
		{put("k", text32), "\x02\x01k\x20" + text32},
		{app("k", ""), "\x04\x01k\x00"},
		{app("k", "x"), "\x04\x01k\x01x"},
		{app("k", text32), "\x04\x01k\x20" + text32},
	}
}

// wrong is bytes in which no update stands, and why.
type wrong struct {
	bytes string
	e     api.Errno
}

// wrongs: each reason that the document names, and several of them at once: the first from the left is told.
func wrongs() []wrong {
	key17, text33 := strings.Repeat("k", 17), strings.Repeat("t", 33)
	return []wrong{
		{"", api.ErrCut},
		{"\x00", api.ErrKind},
		{"\x00\x01k", api.ErrKind},
		{"\x00\x01k\x00", api.ErrKind},
		{"\x00\x00", api.ErrKind},
		{"\x00\x11" + key17, api.ErrKind},
		{"\x06", api.ErrRange},
		{"\x06\x01k", api.ErrRange},
		{"\x07\x01k\x00", api.ErrRange},
		{"\x3f\x01k", api.ErrRange},
		{"\x40\x40\x01k", api.ErrRange},
		{"\x80\x00\x40\x00\x01k", api.ErrRange},
		{"\xc0\x00\x00\x01\x00\x00\x00\x01\x01k", api.ErrRange},
		{"\xff\xff\xff\xff\xff\xff\xff\xff\x01k", api.ErrRange},
		{"\x01\x00\x06", api.ErrRange},
		{"\x02\x00\x00", api.ErrRange},
		{"\x03\x00", api.ErrRange},
		{"\x04\x00\x21" + text33, api.ErrRange},
		{"\x05\x00", api.ErrRange},
		{"\x01\x11" + key17 + "\x06", api.ErrRange},
		{"\x02\x11" + key17 + "\x00", api.ErrRange},
		{"\x05\x11" + key17, api.ErrRange},
		{"\x05\x11", api.ErrRange},
		{"\x05\x40\x40" + strings.Repeat("k", 64), api.ErrRange},
		{"\x05\xff\xff\xff\xff\xff\xff\xff\xff", api.ErrRange},
		{"\x05\x10" + key17[:15], api.ErrCut},
		{"\x05\x10" + key17, api.ErrMore},
		{"\x02\x01k\x21" + text33, api.ErrRange},
		{"\x04\x01k\x21" + text33, api.ErrRange},
		{"\x04\x01k\x21", api.ErrRange},
		{"\x04\x01k\x40\x40", api.ErrRange},
		{"\x02\x01k\x20" + text33[:31], api.ErrCut},
		{"\x02\x01k\x20" + text33, api.ErrMore},
		{"\x02\x01k\x05ab", api.ErrCut},
		{"\x05\x01kk", api.ErrMore},
		{"\x05\x01k\x00", api.ErrMore},
		{"\x40\x00\x01k", api.ErrLong},
		{"\x40\x05\x01k", api.ErrLong},
		{"\x80\x00\x00\x05\x01k", api.ErrLong},
		{"\xc0\x00\x00\x00\x00\x00\x00\x05\x01k", api.ErrLong},
		{"\x40\x06\x01k", api.ErrLong},
		{"\x05\x40\x00", api.ErrLong},
		{"\x05\x40\x01k", api.ErrLong},
		{"\x05\x80\x00\x00\x01k", api.ErrLong},
		{"\x05\xc0\x00\x00\x00\x00\x00\x00\x01k", api.ErrLong},
		{"\x05\x40\x11" + key17, api.ErrLong},
		{"\x02\x01k\x40\x01x", api.ErrLong},
		{"\x04\x01k\x80\x00\x00\x00", api.ErrLong},
		{"\x04\x01k\x40\x21" + text33, api.ErrLong},
		{"\x01\x01k\x40\x06", api.ErrLong},
		{"\x03\x01k\x80\x00\x00\x40", api.ErrLong},
		{"\x03\x01k\xc0\x00\x00\x00\x00\x00\x40\x00", api.ErrLong},
		{"\x40", api.ErrCut},
		{"\x05\x80\x00\x00", api.ErrCut},
		{"\x01\x01k\xff\xff\xff\xff\xff\xff\xff", api.ErrCut},
	}
}

// refused is an update that may not be, and why.
type refused struct {
	u api.Update
	e api.Errno
}

// refusals: each way in which an update may not be, and several at once: the one that value.May names first is told.
func refusals() []refused {
	key17, text33 := strings.Repeat("k", 17), strings.Repeat("t", 33)
	return []refused{
		{none, api.ErrRange},
		{set("", 3), api.ErrRange},
		{put("", "x"), api.ErrRange},
		{del(""), api.ErrRange},
		{del(key17), api.ErrRange},
		{add(key17, 1), api.ErrRange},
		{api.Update{Key: "k"}, api.ErrKind},
		{api.Update{Key: "k", Kind: 6}, api.ErrKind},
		{api.Update{Key: "k", Kind: -1}, api.ErrKind},
		{api.Update{Key: "k", Kind: math.MaxInt}, api.ErrKind},
		{api.Update{Key: "k", Kind: math.MinInt}, api.ErrKind},
		{api.Update{Key: "k", Kind: api.USet, S: "x"}, api.ErrForm},
		{api.Update{Key: "k", Kind: api.UAdd, N: 1, S: "x"}, api.ErrForm},
		{api.Update{Key: "k", Kind: api.UText, N: 1}, api.ErrForm},
		{api.Update{Key: "k", Kind: api.UAppend, N: -1, S: "x"}, api.ErrForm},
		{api.Update{Key: "k", Kind: api.UDelete, N: 1}, api.ErrForm},
		{api.Update{Key: "k", Kind: api.UDelete, S: "x"}, api.ErrForm},
		{set("k", least-1), api.ErrRange},
		{set("k", greatest+1), api.ErrRange},
		{add("k", math.MinInt64), api.ErrRange},
		{add("k", math.MaxInt64), api.ErrRange},
		{put("k", text33), api.ErrRange},
		{app("k", text33), api.ErrRange},
		{api.Update{Key: key17, Kind: 6, N: 1, S: "x"}, api.ErrRange},
		{api.Update{Key: "", Kind: api.UDelete, N: 1}, api.ErrRange},
		{api.Update{Key: "k", Kind: 6, N: 1, S: text33}, api.ErrKind},
		{api.Update{Key: "k", Kind: api.USet, N: greatest + 1, S: "x"}, api.ErrForm},
		{api.Update{Key: "k", Kind: api.UAppend, N: 1, S: text33}, api.ErrForm},
	}
}

// checkPut looks what Put answers.
func checkPut(t *testing.T, u api.Update, want string, wantErr api.Errno) {
	t.Helper()
	if b, e := Put(u); b != want || e != wantErr {
		t.Errorf("Put %v: %x %d, not %x %d", u, b, e, want, wantErr)
	}
}

// checkGet looks what Get answers.
func checkGet(t *testing.T, b string, want api.Update, wantErr api.Errno) {
	t.Helper()
	if u, e := Get(b); u != want || e != wantErr {
		t.Errorf("Get %x: %v %d, not %v %d", b, u, e, want, wantErr)
	}
}

// checkBytes looks what a writer has.
func checkBytes(t *testing.T, w *pack.Writer, want string, wantErr api.Errno) {
	t.Helper()
	if b, e := w.Bytes(); b != want || e != wantErr {
		t.Errorf("Bytes: %x %d, not %x %d", b, e, want, wantErr)
	}
}

// checkFailed looks whether Read fails the reader with that error, or leaves it: nothing is read behind it, and the error stays.
func checkFailed(t *testing.T, name string, r *pack.Reader, e api.Errno) {
	t.Helper()
	for range 3 {
		if u := Read(r); u != none || r.Err() != e {
			t.Errorf("%q: Read %v %d, not none and %d", name, u, r.Err(), e)
		}
	}
	if n := r.Number(math.MaxInt); n != 0 || r.End() != e {
		t.Errorf("%q: behind it %d %d, not 0 and %d", name, n, r.End(), e)
	}
}

// TestPut is P6.1: the bytes of an update's fields.
func TestPut(t *testing.T) {
	for _, x := range examples() {
		checkPut(t, x.u, x.bytes, api.OK)
	}
}

// TestPutOfWhatMayNotBe is P6.1: value.May's error, and no bytes.
func TestPutOfWhatMayNotBe(t *testing.T) {
	for _, x := range refusals() {
		checkPut(t, x.u, "", x.e)
		if e := value.May(x.u); e != x.e {
			t.Errorf("%v: value.May tells %d, not %d", x.u, e, x.e)
		}
	}
	for kind := -70; kind <= 70; kind++ {
		if kind < 1 || kind > 5 {
			checkPut(t, api.Update{Key: "k", Kind: kind}, "", api.ErrKind)
		}
	}
}

// TestWrite is P6.1: the same bytes, alone, behind what the writer has, and with more behind them.
func TestWrite(t *testing.T) {
	for _, x := range examples() {
		var w pack.Writer
		Write(&w, x.u)
		checkBytes(t, &w, x.bytes, api.OK)
		w = pack.Writer{}
		w.Number(300)
		w.Text("ahead")
		Write(&w, x.u)
		checkBytes(t, &w, "\x41\x2c\x05ahead"+x.bytes, api.OK)
		w.Signed(-1)
		checkBytes(t, &w, "\x41\x2c\x05ahead"+x.bytes+"\x01", api.OK)
	}
}

// TestWriteSeveral is P6.1: updates stand in the order of writing.
func TestWriteSeveral(t *testing.T) {
	var w pack.Writer
	want := ""
	for _, x := range examples() {
		Write(&w, x.u)
		want += x.bytes
		checkBytes(t, &w, want, api.OK)
	}
}

// TestWriteBehindABadNumber: a writer that has a number without bytes has none of an update either.
func TestWriteBehindABadNumber(t *testing.T) {
	for _, x := range examples() {
		var w pack.Writer
		w.Number(-1)
		Write(&w, x.u)
		checkBytes(t, &w, "", api.ErrRange)
	}
}

// TestWriteOfWhatMayNotBe is rule 1: nothing is promised of the bytes, but the call ends without a panic.
func TestWriteOfWhatMayNotBe(t *testing.T) {
	for _, x := range refusals() {
		var w pack.Writer
		Write(&w, x.u)
		w.Bytes()
	}
}

// TestGet is P6.2: the update whose bytes stand there, up to the end.
func TestGet(t *testing.T) {
	for _, x := range examples() {
		checkGet(t, x.bytes, x.u, api.OK)
	}
}

// TestGetWithMore is P6.2: with bytes behind the update Get tells End's error.
func TestGetWithMore(t *testing.T) {
	for _, x := range examples() {
		for _, more := range []string{"\x00", "k", "\xff", "\x40\x01", x.bytes} {
			checkGet(t, x.bytes+more, none, api.ErrMore)
		}
	}
}

// TestGetCut is P6.2: cut at each place, an update's bytes are ErrCut.
func TestGetCut(t *testing.T) {
	for _, x := range examples() {
		for i := range len(x.bytes) {
			checkGet(t, x.bytes[:i], none, api.ErrCut)
		}
	}
}

// TestGetWrong is P6.2: for which reason no update stands there.
func TestGetWrong(t *testing.T) {
	for _, x := range wrongs() {
		checkGet(t, x.bytes, none, x.e)
	}
}

// TestGetKinds is P6.2: a Kind of 0 is ErrKind, one above 5 layer 3's ErrRange.
func TestGetKinds(t *testing.T) {
	for kind := range 64 {
		want, wantErr := api.Update{Key: "k", Kind: kind}, api.OK
		switch {
		case kind == 0:
			want, wantErr = none, api.ErrKind
		case kind > 5:
			want, wantErr = none, api.ErrRange
		}
		b := string([]byte{byte(kind), 1, 'k', 0})
		if kind == 5 {
			b = b[:3]
		}
		checkGet(t, b, want, wantErr)
	}
}

// TestRead is P6.2: at a reader's place, with bytes behind it, which are left.
func TestRead(t *testing.T) {
	for _, x := range examples() {
		r := pack.Read("\x07" + x.bytes + "\x03end")
		if n := r.Number(7); n != 7 {
			t.Fatalf("ahead: %d", n)
		}
		if u := Read(r); u != x.u || r.Err() != api.OK {
			t.Errorf("%x: %v %d", x.bytes, u, r.Err())
		}
		if s := r.Text(3); s != "end" || r.End() != api.OK {
			t.Errorf("behind %x: %q %d", x.bytes, s, r.End())
		}
	}
}

// TestReadSeveral is P6.2: one behind the other, till nothing is left; then ErrCut.
func TestReadSeveral(t *testing.T) {
	all := ""
	for _, x := range examples() {
		all += x.bytes
	}
	r := pack.Read(all)
	for _, x := range examples() {
		if u := Read(r); u != x.u || r.Err() != api.OK {
			t.Errorf("%x: %v %d", x.bytes, u, r.Err())
		}
	}
	if e := r.End(); e != api.OK {
		t.Errorf("End: %d", e)
	}
	checkFailed(t, "at the end", r, api.ErrCut)
}

// TestReadWrong is P6.2: the reader fails, the zero update is answered, and nothing behind it is read.
func TestReadWrong(t *testing.T) {
	for _, x := range wrongs() {
		if x.e != api.ErrMore { // End's error, not Read's
			checkFailed(t, x.bytes, pack.Read(x.bytes), x.e)
		}
	}
	for _, x := range examples() {
		for i := range len(x.bytes) {
			checkFailed(t, x.bytes[:i], pack.Read(x.bytes[:i]), api.ErrCut)
		}
	}
}

// TestReadBehindWrong is P6.2: a whole update behind a wrong one isn't read.
func TestReadBehindWrong(t *testing.T) {
	for _, b := range []string{"\x00", "\x06", "\x05\x00", "\x05\x11", "\x02\x01k\x21", "\x40\x05", "\x05\x40\x01", "\x01\x01k\x40\x06"} {
		r := pack.Read(b + "\x05\x01k")
		Read(r)
		checkFailed(t, b, r, r.Err())
		if r.Err() == api.OK {
			t.Errorf("%x: no error", b)
		}
	}
}

// TestReadOfAFailedReader is P6.2: the zero update; the first error stays, whatever stands in the bytes.
func TestReadOfAFailedReader(t *testing.T) {
	texts := []string{"", "\x00", "\x06", "\x05\x00"}
	for _, x := range examples() {
		texts = append(texts, x.bytes)
	}
	for _, b := range texts {
		for e := api.ErrRange; e <= api.ErrForm; e++ {
			r := pack.Read(b)
			r.Fail(e)
			checkFailed(t, b, r, e)
		}
		r := pack.Read("\x09" + b)
		r.Number(8)
		checkFailed(t, b, r, api.ErrRange)
		r = pack.Read("\x40\x01" + b)
		r.Signed()
		checkFailed(t, b, r, api.ErrLong)
	}
}

// TestPutIsGot is P6.3: of keys, numbers and texts of each length and of all bytes, by Put and Get, and by Write and Read.
func TestPutIsGot(t *testing.T) {
	for _, u := range many() {
		b, e := Put(u)
		if e != api.OK {
			t.Fatalf("Put %v: %d", u, e)
		}
		checkGet(t, b, u, api.OK)
		var w pack.Writer
		Write(&w, u)
		checkBytes(t, &w, b, api.OK)
		if got := Read(pack.Read(b + "x")); got != u {
			t.Errorf("Read %x: %v, not %v", b, got, u)
		}
	}
}

// many: updates that may be, of each Kind.
func many() []api.Update {
	l := []api.Update{}
	all := func(key string, n int64, s string) {
		l = append(l, set(key, n), add(key, n), put(key, s), app(key, s), del(key))
	}
	for i := range 256 {
		c := string([]byte{byte(i)})
		all(strings.Repeat(c, i%16+1), int64(i), strings.Repeat(c, i%33))
	}
	for bit := range 62 {
		for d := int64(-1); d <= 1; d++ {
			n := int64(1)<<bit + d
			all("k", min(n, greatest), "")
			all("k", max(-n, least), "s")
		}
	}
	return l
}

// TestGotIsPut is P6.3: of all texts out of some telling bytes, each that is got may be, and is put as it was.
func TestGotIsPut(t *testing.T) {
	got := 0
	var try func(b string, more int)
	try = func(b string, more int) {
		if u, e := Get(b); e == api.OK {
			got++
			if value.May(u) != api.OK {
				t.Errorf("%x: %v may not be", b, u)
			}
			checkPut(t, u, b, api.OK)
		} else if u != none {
			t.Errorf("%x: %v beside %d", b, u, e)
		}
		if more == 0 {
			return
		}
		for _, c := range []byte("\x00\x01\x02\x03\x04\x05\x06\x10\x11\x3f\x40\x80\xc0\xff") {
			try(b+string([]byte{c}), more-1)
		}
	}
	try("", 5)
	for _, x := range examples() {
		for i := range len(x.bytes) {
			for c := range 256 {
				try(x.bytes[:i]+string([]byte{byte(c)})+x.bytes[i+1:], 0)
			}
		}
	}
	if got < 1000 {
		t.Errorf("just %d updates were got", got)
	}
}

// TestAnswersAreNew is rule 5: what is answered shares no memory with what was handed in.
func TestAnswersAreNew(t *testing.T) {
	handed := []byte("\x02\x03key\x04text")
	u, e := Get(unsafe.String(&handed[0], len(handed)))
	clear(handed)
	if u != put("key", "text") || e != api.OK {
		t.Errorf("%v %d", u, e)
	}
	key, text := []byte("key"), []byte("text")
	u = put(unsafe.String(&key[0], len(key)), unsafe.String(&text[0], len(text)))
	b, e := Put(u)
	var w pack.Writer
	Write(&w, u)
	clear(key)
	clear(text)
	if b != "\x02\x03key\x04text" || e != api.OK {
		t.Errorf("%x %d", b, e)
	}
	checkBytes(t, &w, "\x02\x03key\x04text", api.OK)
}
