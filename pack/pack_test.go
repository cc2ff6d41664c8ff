package pack

import (
	"math"
	"strings"
	"testing"
	"unsafe"

	"chapbook/api"
)

const (
	tooGreat    = 1 << 62 // the least number without bytes
	readAtMost  = 1 << 60
	mostOfAny   = math.MaxInt
	leastOfAny  = math.MinInt
	signedBound = 1 << 61 // Zig has bytes from -2^61 to 2^61 - 1
)

// field is a field of one of the three sorts, and its bytes.
type field struct {
	sort   byte // n, s or t
	n      int
	signed int64
	text   string
	bytes  string
}

// number, signed and text make fields.
func number(n int, b string) field       { return field{sort: 'n', n: n, bytes: b} }
func signed(n int64, b string) field     { return field{sort: 's', signed: n, bytes: b} }
func text(s string, length string) field { return field{sort: 't', text: s, bytes: length + s} }

// put puts it into a writer.
func (f field) put(w *Writer) {
	switch f.sort {
	case 'n':
		w.Number(f.n)
	case 's':
		w.Signed(f.signed)
	default:
		w.Text(f.text)
	}
}

// isRead: whether the reader reads just that field; a number and a text with no bound, and with the field itself as one.
func (f field) isRead(r *Reader, tight bool) bool {
	mostNumber, mostText := mostOfAny, mostOfAny
	if tight {
		mostNumber, mostText = f.n, len(f.text)
	}
	switch f.sort {
	case 'n':
		return r.Number(mostNumber) == f.n
	case 's':
		return r.Signed() == f.signed
	default:
		return r.Text(mostText) == f.text
	}
}

// fields: one of each kind that the document names, with bytes written out: all edges of a number's length, too.
func fields() []field {
	return []field{
		number(0, "\x00"),
		number(1, "\x01"),
		number(63, "\x3f"),
		number(64, "\x40\x40"),
		number(300, "\x41\x2c"),
		number(1<<14-1, "\x7f\xff"),
		number(1<<14, "\x80\x00\x40\x00"),
		number(1<<30-1, "\xbf\xff\xff\xff"),
		number(1<<30, "\xc0\x00\x00\x00\x40\x00\x00\x00"),
		number(readAtMost-1, "\xcf\xff\xff\xff\xff\xff\xff\xff"),
		number(readAtMost, "\xd0\x00\x00\x00\x00\x00\x00\x00"),
		signed(0, "\x00"),
		signed(-1, "\x01"),
		signed(1, "\x02"),
		signed(-3, "\x05"),
		signed(31, "\x3e"),
		signed(-32, "\x3f"),
		signed(32, "\x40\x40"),
		signed(-33, "\x40\x41"),
		signed(-1<<13, "\x7f\xff"),
		signed(1<<13, "\x80\x00\x40\x00"),
		signed(-1<<29, "\xbf\xff\xff\xff"),
		signed(1<<29, "\xc0\x00\x00\x00\x40\x00\x00\x00"),
		signed(signedBound-1, "\xff\xff\xff\xff\xff\xff\xff\xfe"),
		signed(-signedBound, "\xff\xff\xff\xff\xff\xff\xff\xff"),
		text("", "\x00"),
		text("a", "\x01"),
		text("ab", "\x02"),
		text("\x00\xff\x80", "\x03"),
		text("no utf8 \xc3\x28", "\x0a"),
		text(strings.Repeat("x", 63), "\x3f"),
		text(strings.Repeat("y", 64), "\x40\x40"),
		text(strings.Repeat("z", 1<<14-1), "\x7f\xff"),
		text(strings.Repeat("\x40", 1<<14), "\x80\x00\x40\x00"),
	}
}

// written: the bytes of fields that are put into one writer.
func written(t *testing.T, l []field) string {
	t.Helper()
	var w Writer
	for _, f := range l {
		f.put(&w)
	}
	b, e := w.Bytes()
	if e != api.OK {
		t.Fatalf("Bytes: %d", e)
	}
	return b
}

// checkBytes: what Bytes answers.
func checkBytes(t *testing.T, w *Writer, want string) {
	t.Helper()
	if b, e := w.Bytes(); b != want || e != api.OK {
		t.Errorf("Bytes: %x %d; want %x", b, e, want)
	}
}

// checkNoBytes: a writer that was given a number without bytes; nor does it keep any.
func checkNoBytes(t *testing.T, w *Writer) {
	t.Helper()
	if len(w.gathered) != 0 {
		t.Errorf("it keeps %x", w.gathered)
	}
	if b, e := w.Bytes(); b != "" || e != api.ErrRange {
		t.Errorf("Bytes: %x %d; want ErrRange", b, e)
	}
}

// checkFailed: a reader that failed: each read answers nothing, Fail and End leave the first error, however often.
func checkFailed(t *testing.T, r *Reader, e api.Errno) {
	t.Helper()
	for range 2 {
		if r.Err() != e {
			t.Fatalf("Err: %d; want %d", r.Err(), e)
		}
		if n := r.Number(mostOfAny); n != 0 || r.Err() != e {
			t.Errorf("Number behind %d: %d %d", e, n, r.Err())
		}
		if n := r.Signed(); n != 0 || r.Err() != e {
			t.Errorf("Signed behind %d: %d %d", e, n, r.Err())
		}
		if s := r.Text(mostOfAny); s != "" || r.Err() != e {
			t.Errorf("Text behind %d: %x %d", e, s, r.Err())
		}
		if x := r.End(); x != e {
			t.Errorf("End behind %d: %d", e, x)
		}
		for _, other := range []api.Errno{api.OK, api.ErrRange, api.ErrForm, -1} {
			if r.Fail(other); r.Err() != e {
				t.Errorf("Fail(%d) behind %d: %d", other, e, r.Err())
			}
		}
	}
}

// P3.1
func TestZeroWriter(t *testing.T) {
	var w Writer
	checkBytes(t, &w, "")
	checkBytes(t, &w, "")
	w.Number(5)
	checkBytes(t, &w, "\x05")
	checkBytes(t, new(Writer), "")
}

// P3.1: the document's example.
func TestExample(t *testing.T) {
	var w Writer
	w.Number(300)
	w.Text("ab")
	checkBytes(t, &w, "\x41\x2c\x02\x61\x62")
	r := Read("\x41\x2c\x02\x61\x62")
	if n, s := r.Number(300), r.Text(2); n != 300 || s != "ab" || r.End() != api.OK {
		t.Errorf("%d %q %d", n, s, r.Err())
	}
}

// P3.1: each field alone.
func TestBytesOfEachField(t *testing.T) {
	for _, f := range fields() {
		var w Writer
		f.put(&w)
		checkBytes(t, &w, f.bytes)
	}
}

// P3.1: numbers that are too great to be read by Number have bytes.
func TestGreatNumbersAreWritten(t *testing.T) {
	for _, f := range []field{
		number(readAtMost+1, "\xd0\x00\x00\x00\x00\x00\x00\x01"),
		number(1<<61, "\xe0\x00\x00\x00\x00\x00\x00\x00"),
		number(tooGreat-1, "\xff\xff\xff\xff\xff\xff\xff\xff"),
	} {
		var w Writer
		f.put(&w)
		checkBytes(t, &w, f.bytes)
	}
}

// P3.1: fields stand in the order of putting, each pair both ways round.
func TestFieldsBehindEachOther(t *testing.T) {
	for _, f := range fields() {
		for _, g := range fields() {
			if b := written(t, []field{f, g}); b != f.bytes+g.bytes {
				t.Errorf("%x and %x: %x", f.bytes, g.bytes, b)
			}
		}
	}
}

// P3.1: Bytes asked at each field: it goes on behind, and what was answered stays.
func TestBytesAskedSeveralTimes(t *testing.T) {
	var w Writer
	var answers, wants []string
	want := ""
	for _, f := range fields() {
		f.put(&w)
		want += f.bytes
		checkBytes(t, &w, want)
		b, _ := w.Bytes()
		answers, wants = append(answers, b), append(wants, want)
	}
	for i := range answers {
		if answers[i] != wants[i] {
			t.Errorf("answer %d changed", i)
		}
	}
}

// badPuts: each puts a number that is below 0, or has no bytes.
func badPuts() map[string]func(w *Writer) {
	l := map[string]func(w *Writer){}
	for name, n := range map[string]int{"-1": -1, "-2": -2, "-2^61": -1 << 61, "-2^62": -1 << 62, "least": leastOfAny, "least+1": leastOfAny + 1, "2^62": tooGreat, "2^62+1": tooGreat + 1, "greatest": mostOfAny} {
		l["Number "+name] = func(w *Writer) { w.Number(n) }
	}
	for name, n := range map[string]int64{"2^61": signedBound, "-2^61-1": -signedBound - 1, "2^62": tooGreat, "-2^62": -tooGreat, "greatest": math.MaxInt64, "least": math.MinInt64, "least+1": math.MinInt64 + 1} {
		l["Signed "+name] = func(w *Writer) { w.Signed(n) }
	}
	return l
}

// P3.1: ErrRange from then on, wherever it stands, whatever is put behind.
func TestNumberWithoutBytes(t *testing.T) {
	for name, bad := range badPuts() {
		t.Run(name, func(t *testing.T) {
			var w Writer
			bad(&w)
			checkNoBytes(t, &w)
			w = Writer{}
			w.Text("ahead")
			checkBytes(t, &w, "\x05ahead")
			bad(&w)
			checkNoBytes(t, &w)
			for _, f := range fields() {
				f.put(&w)
				checkNoBytes(t, &w)
			}
			bad(&w)
			checkNoBytes(t, &w)
		})
	}
}

// P3.1: two writers have nothing in common.
func TestTwoWriters(t *testing.T) {
	var v, w Writer
	v.Number(-1)
	w.Text("w")
	checkNoBytes(t, &v)
	checkBytes(t, &w, "\x01w")
}

// P3.2: each field, read with a bound that is just enough, and with the greatest one.
func TestReadEachField(t *testing.T) {
	for _, f := range fields() {
		for _, tight := range []bool{false, true} {
			r := Read(f.bytes)
			if !f.isRead(r, tight) || r.Err() != api.OK || r.End() != api.OK || r.Err() != api.OK {
				t.Errorf("%x as %c: %d", f.bytes, f.sort, r.Err())
			}
			if r.Number(mostOfAny) != 0 || r.Err() != api.ErrCut {
				t.Errorf("behind %x as %c: %d", f.bytes, f.sort, r.Err())
			}
		}
	}
}

// P3.2: Read stands at the front; two readers of one text have nothing in common.
func TestTwoReaders(t *testing.T) {
	b := "\x01\x02"
	q, r := Read(b), Read(b)
	if q.Number(9) != 1 || q.Number(9) != 2 || q.End() != api.OK || r.Number(0) != 0 || r.Err() != api.ErrRange || q.Err() != api.OK {
		t.Errorf("%d %d", q.Err(), r.Err())
	}
}

// P3.2: the bytes that were handed in aren't kept, and a text that is answered is new memory.
func TestReaderSharesNothing(t *testing.T) {
	handed := []byte("\x02ab\x02cd")
	r := Read(unsafe.String(&handed[0], len(handed)))
	s := r.Text(2)
	clear(handed)
	if q := r.Text(2); s != "ab" || q != "cd" {
		t.Errorf("%q %q", s, q)
	}
	r = Read("\x02ab")
	front := unsafe.StringData(r.rest[1:])
	if s := r.Text(2); s != "ab" || unsafe.StringData(s) == front {
		t.Errorf("%q shares the reader's bytes", s)
	}
}

// P3.2: nothing has no field.
func TestReadNothing(t *testing.T) {
	if r := Read(""); r.Err() != api.OK || r.End() != api.OK {
		t.Errorf("%d", r.Err())
	}
	for _, f := range []field{number(0, ""), signed(0, ""), text("", "")} {
		r := Read("")
		f.isRead(r, false)
		checkFailed(t, r, api.ErrCut)
	}
}

// P3.2: most, by the number that stands there: below 0 it counts as 0, above 2^60 as that.
func TestMost(t *testing.T) {
	for _, x := range []struct {
		n, most int
		ok      bool
	}{
		{0, 0, true}, {1, 0, false},
		{0, -1, true}, {1, -1, false}, {63, -1, false},
		{0, leastOfAny, true}, {1, leastOfAny, false},
		{5, 4, false}, {5, 5, true}, {5, 6, true},
		{63, 62, false}, {63, 63, true}, {64, 63, false}, {64, 64, true},
		{1 << 14, 1<<14 - 1, false}, {1 << 14, 1 << 14, true},
		{1 << 30, 1<<30 - 1, false}, {1 << 30, 1 << 30, true},
		{readAtMost - 1, readAtMost - 1, true}, {readAtMost - 1, readAtMost, true}, {readAtMost - 1, readAtMost - 2, false},
		{readAtMost, readAtMost - 1, false}, {readAtMost, readAtMost, true}, {readAtMost, readAtMost + 1, true}, {readAtMost, mostOfAny, true},
		{readAtMost + 1, readAtMost, false}, {readAtMost + 1, readAtMost + 1, false}, {readAtMost + 1, mostOfAny, false},
		{1 << 61, 1 << 61, false}, {tooGreat - 1, tooGreat - 1, false}, {tooGreat - 1, tooGreat, false}, {tooGreat - 1, mostOfAny, false},
	} {
		r := Read(written(t, []field{number(x.n, "")}) + "\x07")
		n := r.Number(x.most)
		if !x.ok {
			if n != 0 {
				t.Errorf("%d, at most %d: %d", x.n, x.most, n)
			}
			checkFailed(t, r, api.ErrRange)
			continue
		}
		if n != x.n || r.Number(7) != 7 || r.End() != api.OK {
			t.Errorf("%d, at most %d: %d %d", x.n, x.most, n, r.Err())
		}
	}
}

// P3.2: a text just as long as most, and one byte longer; below 0 counts as 0.
func TestMostOfText(t *testing.T) {
	for _, x := range []struct {
		length, most int
		ok           bool
	}{
		{0, 0, true}, {0, -1, true}, {0, leastOfAny, true}, {0, mostOfAny, true},
		{1, 0, false}, {1, -1, false}, {1, leastOfAny, false}, {1, 1, true},
		{16, 15, false}, {16, 16, true}, {16, 17, true}, {17, 16, false},
		{64, 63, false}, {64, 64, true}, {1400, 1399, false}, {1400, 1400, true}, {1400, readAtMost + 1, true}, {1400, mostOfAny, true},
	} {
		want := strings.Repeat("k", x.length)
		r := Read(written(t, []field{text(want, "")}) + "\x07")
		s := r.Text(x.most)
		if !x.ok {
			if s != "" {
				t.Errorf("length %d, at most %d: %q", x.length, x.most, s)
			}
			checkFailed(t, r, api.ErrRange)
			continue
		}
		if s != want || r.Number(7) != 7 || r.End() != api.OK {
			t.Errorf("length %d, at most %d: %q %d", x.length, x.most, s, r.Err())
		}
	}
}

// P3.2: Signed has no bound beside the bytes' own.
func TestSignedAbove(t *testing.T) {
	for n, b := range map[int64]string{
		1 << 59:         "\xd0\x00\x00\x00\x00\x00\x00\x00",
		-1<<59 - 1:      "\xd0\x00\x00\x00\x00\x00\x00\x01",
		1 << 60:         "\xe0\x00\x00\x00\x00\x00\x00\x00",
		-signedBound:    "\xff\xff\xff\xff\xff\xff\xff\xff",
		signedBound - 1: "\xff\xff\xff\xff\xff\xff\xff\xfe",
	} {
		r := Read(b)
		if got := r.Signed(); got != n || r.End() != api.OK {
			t.Errorf("%x: %d %d; want %d", b, got, r.Err(), n)
		}
	}
}

// P3.2: each field cut off at each place: ErrCut.
func TestCutFields(t *testing.T) {
	for _, f := range fields() {
		for at := range min(len(f.bytes), 100) {
			checkCut(t, f, f.bytes[:at])
		}
		checkCut(t, f, f.bytes[:len(f.bytes)-1])
	}
}

func checkCut(t *testing.T, f field, b string) {
	t.Helper()
	r := Read(b)
	if got := (field{sort: f.sort}); !got.isRead(r, false) {
		t.Errorf("%x as %c: not zero", b, f.sort)
	}
	checkFailed(t, r, api.ErrCut)
}

// P3.2: several fields cut off at each place: those ahead of the cut are read.
func TestCutBytes(t *testing.T) {
	l := []field{number(300, ""), text("ab", ""), signed(-70, ""), text("", ""), number(1<<30, ""), text(strings.Repeat("q", 70), "")}
	b := written(t, l)
	for at := range len(b) {
		r := Read(b[:at])
		for _, f := range l {
			if !f.isRead(r, true) {
				break
			}
		}
		checkFailed(t, r, api.ErrCut)
	}
}

// P3.2: a number in more bytes than it needs: ErrLong, of a text's length too, ahead of all that may be wrong behind it.
func TestTooManyBytes(t *testing.T) {
	for _, b := range []string{
		"\x40\x00", "\x40\x03", "\x40\x3f",
		"\x80\x00\x00\x00", "\x80\x00\x00\x40", "\x80\x00\x3f\xff",
		"\xc0\x00\x00\x00\x00\x00\x00\x00", "\xc0\x00\x00\x00\x00\x00\x40\x00", "\xc0\x00\x00\x00\x3f\xff\xff\xff",
	} {
		for _, behind := range []string{"", "abc", strings.Repeat("abc", 1<<13)} {
			for _, most := range []int{-1, 0, 3, mostOfAny} {
				r := Read(b + behind)
				if n := r.Number(most); n != 0 {
					t.Errorf("%x: %d", b, n)
				}
				checkFailed(t, r, api.ErrLong)
				r = Read(b + behind)
				if s := r.Text(most); s != "" {
					t.Errorf("%x: %q", b, s)
				}
				checkFailed(t, r, api.ErrLong)
			}
			r := Read(b + behind)
			if n := r.Signed(); n != 0 {
				t.Errorf("%x: %d", b, n)
			}
			checkFailed(t, r, api.ErrLong)
		}
	}
}

// P3.2: a length above most comes ahead of the text that is cut off.
func TestLengthAheadOfText(t *testing.T) {
	for _, x := range []struct {
		b    string
		most int
		e    api.Errno
	}{
		{"\x04abc", 3, api.ErrRange},
		{"\x04abcd", 3, api.ErrRange},
		{"\x04abc", 4, api.ErrCut},
		{"\x01", 1, api.ErrCut},
		{"\x01", 0, api.ErrRange},
		{"\x41", 0, api.ErrCut},
		{"\xd0\x00\x00\x00\x00\x00\x00\x00abc", mostOfAny, api.ErrCut},
		{"\xd0\x00\x00\x00\x00\x00\x00\x01abc", mostOfAny, api.ErrRange},
		{"\xff\xff\xff\xff\xff\xff\xff\xffabc", mostOfAny, api.ErrRange},
	} {
		r := Read(x.b)
		if s := r.Text(x.most); s != "" {
			t.Errorf("%x, at most %d: %q", x.b, x.most, s)
		}
		checkFailed(t, r, x.e)
	}
}

// P3.2: bytes that are left at the end, from the front on, and behind each field.
func TestBytesLeft(t *testing.T) {
	for _, f := range fields() {
		r := Read(f.bytes)
		if e := r.End(); e != api.ErrMore {
			t.Errorf("%x: End: %d", f.bytes, e)
		}
		checkFailed(t, r, api.ErrMore)
		r = Read(f.bytes + "\x00")
		if !f.isRead(r, true) || r.Err() != api.OK {
			t.Errorf("%x: %d", f.bytes, r.Err())
		}
		if e := r.End(); e != api.ErrMore {
			t.Errorf("%x 00: End: %d", f.bytes, e)
		}
		checkFailed(t, r, api.ErrMore)
	}
}

// P3.2: End, where nothing is left, fails nothing, and may be asked again.
func TestEndTwice(t *testing.T) {
	r := Read("\x05")
	if r.Number(5) != 5 || r.End() != api.OK || r.End() != api.OK || r.Err() != api.OK {
		t.Errorf("%d", r.Err())
	}
	r.Fail(api.ErrKind)
	checkFailed(t, r, api.ErrKind)
}

// P3.2: Fail with each error, at the front, behind a field, and at the end; OK fails nothing.
func TestFail(t *testing.T) {
	for _, e := range []api.Errno{api.ErrRange, api.ErrCut, api.ErrLong, api.ErrMore, api.ErrKind, api.ErrSum, api.ErrFull, api.ErrExhausted, api.ErrStale, api.ErrOrder, api.ErrNone, api.ErrTwice, api.ErrForm, 14, 1000, -1, math.MinInt, math.MaxInt} {
		for fieldsAhead := range 3 {
			r := Read("\x05\x06")
			for i := range fieldsAhead {
				r.Fail(api.OK)
				if r.Err() != api.OK || r.Number(9) != 5+i {
					t.Errorf("Fail(OK): %d", r.Err())
				}
			}
			r.Fail(e)
			checkFailed(t, r, e)
		}
	}
}

// P3.2: the first error stays where a read fails ahead of Fail and End.
func TestFirstErrorStays(t *testing.T) {
	for _, x := range []struct {
		b string
		e api.Errno
	}{{"", api.ErrCut}, {"\x41", api.ErrCut}, {"\x40\x01\x01", api.ErrLong}, {"\x06\x01", api.ErrRange}} {
		r := Read(x.b)
		r.Number(5)
		r.Fail(api.ErrForm)
		if e := r.End(); e != x.e {
			t.Errorf("%x: %d; want %d", x.b, e, x.e)
		}
		checkFailed(t, r, x.e)
	}
}

// P3.3: fields that look like chance, always the same ones: what is put is read, field by field, with the bound as tight as it goes and without one.
func TestPutIsRead(t *testing.T) {
	x := uint64(0x9e3779b97f4a7c15)
	next := func() uint64 {
		x = x*6364136223846793005 + 1442695040888963407
		return x >> 2 >> (x >> 58)
	}
	for range 500 {
		var l []field
		for range next() % 20 {
			switch next() % 3 {
			case 0:
				l = append(l, number(int(next()%(readAtMost+1)), ""))
			case 1:
				l = append(l, signed(int64(next()%tooGreat)-signedBound, ""))
			default:
				l = append(l, text(strings.Repeat(string([]byte{byte(next())}), int(next()%200)), ""))
			}
		}
		b := written(t, l)
		for _, tight := range []bool{false, true} {
			r := Read(b)
			for i, f := range l {
				if !f.isRead(r, tight) || r.Err() != api.OK {
					t.Fatalf("field %d of %x: %d", i, b, r.Err())
				}
			}
			if e := r.End(); e != api.OK {
				t.Fatalf("end of %x: %d", b, e)
			}
		}
	}
}

// P3.3: all fields of the list, in one text.
func TestAllFieldsAreRead(t *testing.T) {
	r := Read(written(t, fields()))
	for _, f := range fields() {
		if !f.isRead(r, true) || r.Err() != api.OK {
			t.Fatalf("%c %x: %d", f.sort, f.bytes, r.Err())
		}
	}
	if e := r.End(); e != api.OK {
		t.Errorf("end: %d", e)
	}
}

// P3.3: whatever bytes come: what a reader takes is put as it was, up to where it failed, and nothing panics.
func FuzzReadIsPut(f *testing.F) {
	f.Add("\x41\x2c\x02\x61\x62", uint(2))
	f.Add("\x00\x01\x00\x03xyz", uint(0x9c))
	f.Add("\xd0\x00\x00\x00\x00\x00\x00\x01", uint(0))
	f.Add("\x40\x03abc", uint(2))
	f.Add("\xff\xff\xff\xff\xff\xff\xff\xff\x00", uint(1))
	f.Fuzz(func(t *testing.T, b string, sorts uint) {
		r := Read(b)
		var w Writer
		kept := ""
		for r.Err() == api.OK {
			kept, _ = w.Bytes()
			switch sorts % 3 {
			case 0:
				w.Number(r.Number(mostOfAny))
			case 1:
				w.Signed(r.Signed())
			default:
				w.Text(r.Text(mostOfAny))
			}
			sorts /= 3
		}
		if !strings.HasPrefix(b, kept) {
			t.Errorf("%x was read, and put as %x", b, kept)
		}
		checkFailed(t, r, r.Err())
	})
}
