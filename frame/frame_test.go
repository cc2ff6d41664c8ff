package frame

import (
	"hash/crc32"
	"math"
	"strings"
	"testing"
	"unsafe"

	"chapbook/api"
	"chapbook/crc"
	"chapbook/round"
)

const (
	last   = 1 << 40 // the greatest Epoch
	maxSeq = 1 << 50 // the greatest Seq and Ack
)

// of makes a frame.
func of(epoch, seq, ack int, data string) api.Frame {
	return api.Frame{Epoch: epoch, Seq: seq, Ack: ack, Data: data}
}

// data: so many bytes, of every value if there are 256.
func data(many int) string {
	b := make([]byte, many)
	for i := range b {
		b[i] = byte(i * 7)
	}
	return string(b)
}

// number: a number's bytes, by the tests' own means.
func number(n int) string {
	switch {
	case n < 1<<6:
		return string([]byte{byte(n)})
	case n < 1<<14:
		return string([]byte{0x40 | byte(n>>8), byte(n)})
	case n < 1<<30:
		return string([]byte{0x80 | byte(n>>24), byte(n >> 16), byte(n >> 8), byte(n)})
	}
	return string([]byte{0xc0 | byte(n>>56), byte(n >> 48), byte(n >> 40), byte(n >> 32), byte(n >> 24), byte(n >> 16), byte(n >> 8), byte(n)})
}

// sealed: bytes and their sum, by the library's means and not by crc's.
func sealed(b string) string {
	sum := crc32.Checksum([]byte(b), crc32.MakeTable(crc32.Castagnoli))
	return b + string([]byte{byte(sum), byte(sum >> 8), byte(sum >> 16), byte(sum >> 24)})
}

// datagram: a frame's, whatever the frame is.
func datagram(f api.Frame) string {
	return sealed(number(f.Epoch) + number(f.Seq) + number(f.Ack) + number(len(f.Data)) + f.Data)
}

// known is a frame that may be, and the bytes of its fields.
type known struct {
	f      api.Frame
	fields string
}

// examples: frames with fields that are written out: the document's, ordinary ones, and the edges of each number.
func examples() []known {
	return []known{
		{of(1, 0, 5, ""), "\x01\x00\x05\x00"},
		{of(300, 70, 7, "hello"), "\x41\x2c\x40\x46\x07\x05hello"},
		{of(1, 0, 0, ""), "\x01\x00\x00\x00"},
		{of(1, 1, 0, ""), "\x01\x01\x00\x00"},
		{of(1, 1, 0, "\x00"), "\x01\x01\x00\x01\x00"},
		{of(2, 3, 4, "abc"), "\x02\x03\x04\x03abc"},
		{of(63, 63, 63, data(63)), "\x3f\x3f\x3f\x3f" + data(63)},
		{of(64, 64, 64, data(64)), "\x40\x40\x40\x40\x40\x40\x40\x40" + data(64)},
		{of(1<<14-1, 1<<14-1, 1<<14-1, "x"), "\x7f\xff\x7f\xff\x7f\xff\x01x"},
		{of(1<<14, 1<<14, 1<<14, "x"), "\x80\x00\x40\x00\x80\x00\x40\x00\x80\x00\x40\x00\x01x"},
		{of(1<<30-1, 1<<30-1, 1<<30-1, "x"), "\xbf\xff\xff\xff\xbf\xff\xff\xff\xbf\xff\xff\xff\x01x"},
		{of(1<<30, 1<<30, 1<<30, "x"), "\xc0\x00\x00\x00\x40\x00\x00\x00\xc0\x00\x00\x00\x40\x00\x00\x00\xc0\x00\x00\x00\x40\x00\x00\x00\x01x"},
		{of(last, 0, 0, ""), "\xc0\x00\x01\x00\x00\x00\x00\x00\x00\x00\x00"},
		{of(1, maxSeq, 0, "x"), "\x01\xc0\x04\x00\x00\x00\x00\x00\x00\x00\x01x"},
		{of(1, 0, maxSeq, ""), "\x01\x00\xc0\x04\x00\x00\x00\x00\x00\x00\x00"},
		{of(last-1, maxSeq-1, maxSeq-2, "\xff"), "\xc0\x00\x00\xff\xff\xff\xff\xff\xc0\x03\xff\xff\xff\xff\xff\xff\xc0\x03\xff\xff\xff\xff\xff\xfe\x01\xff"},
		{of(last, maxSeq, maxSeq, data(300)), "\xc0\x00\x01\x00\x00\x00\x00\x00\xc0\x04\x00\x00\x00\x00\x00\x00\xc0\x04\x00\x00\x00\x00\x00\x00\x41\x2c" + data(300)},
		{of(1, 1, 1, data(1391)), "\x01\x01\x01\x45\x6f" + data(1391)}, // the most Data that 1400 lets by
	}
}

// many: frames that may be, with numbers about each power of 2, and Data of each length up to 256, and others.
func many() []api.Frame {
	l := []api.Frame{}
	for bit := range 51 {
		for d := -1; d <= 1; d++ {
			n := 1<<bit + d
			epoch, seq := min(max(n, 1), last), min(max(n, 1), maxSeq)
			l = append(l, of(epoch, 0, 0, ""), of(1, seq, 0, "x"), of(1, 0, seq, ""), of(epoch, seq, maxSeq-seq, data(bit)))
		}
	}
	for n := range 257 {
		c := string([]byte{byte(n)})
		l = append(l, of(1, n+1, n, data(n)), of(n+1, 1, 0, c), of(last-n, maxSeq-n, n, strings.Repeat(c, n)))
	}
	for _, n := range []int{1000, 1360, 1369, 1370} {
		l = append(l, of(last, maxSeq, maxSeq, data(n)), of(1, 2, 3, data(n)))
	}
	return l
}

// refused is a thing of which there is no answer, and why.
type refused[T any] struct {
	it T
	e  api.Errno
}

// checkPut looks what Put answers.
func checkPut(t *testing.T, f api.Frame, mtu int, want string, wantErr api.Errno) {
	t.Helper()
	if b, e := Put(f, mtu); b != want || e != wantErr {
		t.Fatalf("Put %#v %d: %x %d, not %x %d", f, mtu, b, e, want, wantErr)
	}
}

// checkNoPut looks whether Put answers that error, and no bytes.
func checkNoPut(t *testing.T, f api.Frame, mtu int, want api.Errno) {
	t.Helper()
	checkPut(t, f, mtu, "", want)
}

// checkGet looks what Get answers.
func checkGet(t *testing.T, b string, want api.Frame, wantErr api.Errno) {
	t.Helper()
	if f, e := Get(b); f != want || e != wantErr {
		t.Fatalf("Get %x: %#v %d, not %#v %d", b, f, e, want, wantErr)
	}
}

// checkNoGet looks whether Get answers that error, and no frame.
func checkNoGet(t *testing.T, b string, want api.Errno) {
	t.Helper()
	checkGet(t, b, api.Frame{}, want)
}

// TestDocumentExample is P9.1 and P9.2: the document's example, its sum written out.
func TestDocumentExample(t *testing.T) {
	f, b := of(1, 0, 5, ""), "\x01\x00\x05\x00\xd4\x18\x0a\xc8"
	checkPut(t, f, 64, b, api.OK)
	checkPut(t, f, 1400, b, api.OK)
	checkGet(t, b, f, api.OK)
	checkPut(t, of(300, 70, 7, "hello"), 64, "\x41\x2c\x40\x46\x07\x05hello\x2e\x2d\xba\xd2", api.OK)
	checkGet(t, "\x41\x2c\x40\x46\x07\x05hello\x2e\x2d\xba\xd2", of(300, 70, 7, "hello"), api.OK)
}

// TestPut is P9.1: the fields, sealed, with each mtu that lets them by; ErrLong with the others.
func TestPut(t *testing.T) {
	for _, x := range examples() {
		b := sealed(x.fields)
		for mtu := 64; mtu <= 1400; mtu++ {
			if len(b) <= mtu {
				checkPut(t, x.f, mtu, b, api.OK)
			} else {
				checkNoPut(t, x.f, mtu, api.ErrLong)
			}
		}
	}
}

// TestPutOfMany is P9.1: as the tests' own means put it.
func TestPutOfMany(t *testing.T) {
	for _, f := range many() {
		b := datagram(f)
		checkPut(t, f, 1400, b, api.OK)
		checkPut(t, f, max(len(b), 64), b, api.OK)
	}
}

// TestPutOfDataAtTheEdges is P9.1: just as many bytes as an mtu lets by, and one more, with numbers of each width.
func TestPutOfDataAtTheEdges(t *testing.T) {
	for _, x := range []struct{ epoch, seq, ack, mtu, most int }{
		{1, 1, 0, 64, 56},
		{1, 1, 64, 64, 55},
		{64, 64, 64, 64, 53},
		{1 << 14, 1 << 14, 1 << 14, 64, 47},
		{last, maxSeq, maxSeq, 64, 35},
		{1, 1, 1, 71, 63},
		{1, 1, 1, 72, 63}, // from 64 on the length has two bytes
		{1, 1, 1, 73, 64},
		{1, 1, 1, 1400, 1391},
		{64, 64, 64, 1400, 1388},
		{last, maxSeq, maxSeq, 1399, 1369},
		{last, maxSeq, maxSeq, 1400, 1370},
	} {
		f := of(x.epoch, x.seq, x.ack, data(x.most))
		checkPut(t, f, x.mtu, datagram(f), api.OK)
		for _, more := range []int{1, 2, 64, 1400, 70000} {
			checkNoPut(t, of(x.epoch, x.seq, x.ack, data(x.most+more)), x.mtu, api.ErrLong)
		}
	}
}

// TestPutOfEachLength is P9.1: each length of Data, with an mtu of just the datagram's bytes, and of one less.
func TestPutOfEachLength(t *testing.T) {
	for n := range 1402 {
		f := of(1, 1, 1, data(n))
		b := datagram(f)
		if len(b) > 1400 {
			checkNoPut(t, f, 1400, api.ErrLong)
			continue
		}
		checkPut(t, f, max(len(b), 64), b, api.OK)
		if len(b) > 64 {
			checkNoPut(t, f, len(b)-1, api.ErrLong)
		}
	}
}

// noMTU: numbers that are no mtu.
func noMTU() []int {
	return []int{63, 62, 1, 0, -1, -64, -1400, 1401, 1402, 1 << 16, 1<<32 + 64, math.MinInt, math.MaxInt}
}

// noFrames: frames with numbers that may not be, with no other fault, and with others.
func noFrames() []api.Frame {
	l := []api.Frame{{}}
	for _, n := range []int{-1, -2, -64, -last, -maxSeq, math.MinInt, math.MinInt + 1, maxSeq + 1, maxSeq + 2, 2 * maxSeq, 1 << 60, 1 << 62, math.MaxInt} {
		l = append(l, of(n, 0, 0, ""), of(1, n, 0, ""), of(1, n, 0, "x"), of(1, 0, n, ""), of(1, 1, n, "x"), of(n, n, n, "x"))
		l = append(l, of(n, 0, 0, "x"), of(1, 0, n, "x"), of(1, n, 0, data(2000)), of(n, 1, 1, data(2000)))
	}
	for _, epoch := range []int{0, last + 1, last + 2, 2 * last, maxSeq} {
		l = append(l, of(epoch, 0, 0, ""), of(epoch, 1, 1, "x"), of(epoch, 0, 0, "x"), of(epoch, 1, 1, data(2000)))
	}
	return l
}

// TestPutRange is P9.1: an mtu, an Epoch, a Seq and an Ack that may not be are ErrRange, ahead of each other error.
func TestPutRange(t *testing.T) {
	good := []api.Frame{of(1, 0, 5, ""), of(1, 0, 0, "x"), of(1, 1, 0, data(2000)), of(last, maxSeq, maxSeq, "x")}
	for _, mtu := range noMTU() {
		for _, f := range append(good, noFrames()...) {
			checkNoPut(t, f, mtu, api.ErrRange)
		}
	}
	for _, f := range noFrames() {
		for _, mtu := range []int{64, 65, 700, 1399, 1400} {
			checkNoPut(t, f, mtu, api.ErrRange)
		}
	}
}

// TestPutForm is P9.1: Data with a Seq of 0 is ErrForm, too long or not; without Data there may be a Seq of 0, and another.
func TestPutForm(t *testing.T) {
	for _, mtu := range []int{64, 1400} {
		for _, n := range []int{1, 2, 56, 57, 63, 64, 1391, 1392, 1400, 1401, 70000} {
			checkNoPut(t, of(1, 0, 0, data(n)), mtu, api.ErrForm)
			checkNoPut(t, of(last, 0, maxSeq, data(n)), mtu, api.ErrForm)
		}
		for _, seq := range []int{0, 1, maxSeq} {
			f := of(1, seq, 0, "")
			checkPut(t, f, mtu, datagram(f), api.OK)
		}
	}
}

// TestGet is P9.2: the frame whose fields were sealed.
func TestGet(t *testing.T) {
	for _, x := range examples() {
		checkGet(t, sealed(x.fields), x.f, api.OK)
		checkGet(t, crc.Seal(x.fields), x.f, api.OK)
	}
	for _, f := range many() {
		checkGet(t, datagram(f), f, api.OK)
	}
}

// TestGetOfEachLength is P9.2: Data of up to 1400 bytes, though the datagram has more then; of 1401 it is ErrRange.
func TestGetOfEachLength(t *testing.T) {
	for n := range 1401 {
		for _, f := range []api.Frame{of(1, 1, 0, data(n)), of(last, maxSeq, maxSeq, data(n))} {
			checkGet(t, datagram(f), f, api.OK)
		}
	}
	for _, n := range []int{1401, 1402, 1 << 14, 70000} {
		checkNoGet(t, datagram(of(1, 1, 0, data(n))), api.ErrRange)
		checkNoGet(t, datagram(of(1, 0, 0, data(n))), api.ErrRange)
	}
}

// TestGetUnsealed is P9.2: no bytes, fewer than a sum has, and bytes that were never sealed, are ErrSum, whatever they are else.
func TestGetUnsealed(t *testing.T) {
	checkNoGet(t, "", api.ErrSum)
	for n := 1; n < 4; n++ {
		for c := range 256 {
			checkNoGet(t, strings.Repeat(string([]byte{byte(c)}), n), api.ErrSum)
		}
	}
	for _, b := range []string{"\x01\x00\x00\x01", "\x01\x00\x05\x00", "\x00\x00\x00\x00\x00", "\xff\xff\xff\xff", "hello, hello", "\x01\x00\x05\x00\x00\x00\x00\x00", "\x01\x00\x05\x00\xc8\x0a\x18\xd4", data(70000)} {
		checkNoGet(t, b, api.ErrSum)
	}
	for _, x := range examples() {
		checkNoGet(t, x.fields, api.ErrSum)
		checkNoGet(t, x.fields+"\x00\x00\x00\x00", api.ErrSum)
	}
}

// TestGetCut is P9.2: a datagram cut at each place, at either end, or with a byte more there, is ErrSum.
func TestGetCut(t *testing.T) {
	for _, x := range examples() {
		b := sealed(x.fields)
		for i := range len(b) {
			checkNoGet(t, b[:i], api.ErrSum)
			if i > 0 {
				checkNoGet(t, b[i:], api.ErrSum)
			}
		}
		for c := range 256 {
			more := string([]byte{byte(c)})
			checkNoGet(t, b+more, api.ErrSum)
			checkNoGet(t, more+b, api.ErrSum)
		}
	}
}

// TestGetOfCutFields is P9.2: fields cut at each place, and sealed so, are ErrCut; the seal of no bytes is that too.
func TestGetOfCutFields(t *testing.T) {
	checkNoGet(t, "\x00\x00\x00\x00", api.ErrCut)
	for _, x := range examples() {
		for i := range len(x.fields) {
			checkNoGet(t, sealed(x.fields[:i]), api.ErrCut)
		}
	}
}

// TestGetWithMore is P9.2: sealed fields with bytes behind them are ErrMore.
func TestGetWithMore(t *testing.T) {
	for _, x := range examples() {
		for _, more := range []string{"\x00", "x", "\xff", "\x40\x01", x.fields, sealed(x.fields)} {
			checkNoGet(t, sealed(x.fields+more), api.ErrMore)
		}
		checkNoGet(t, sealed(sealed(x.fields)), api.ErrMore)
	}
}

// wrong: for each of the four fields: bytes by which it fails, whatever stands behind them.
func wrong() [4][]refused[string] {
	long := []refused[string]{
		{"\x40\x00", api.ErrLong},
		{"\x40\x01", api.ErrLong},
		{"\x40\x3f", api.ErrLong},
		{"\x80\x00\x00\x01", api.ErrLong},
		{"\x80\x00\x3f\xff", api.ErrLong},
		{"\xc0\x00\x00\x00\x00\x00\x00\x00", api.ErrLong},
		{"\xc0\x00\x00\x00\x00\x00\x00\x01", api.ErrLong},
		{"\xc0\x00\x00\x00\x3f\xff\xff\xff", api.ErrLong},
	}
	seq := append(long[:len(long):len(long)],
		refused[string]{"\xc0\x04\x00\x00\x00\x00\x00\x01", api.ErrRange}, // 2^50 + 1
		refused[string]{"\xc0\x08\x00\x00\x00\x00\x00\x00", api.ErrRange},
		refused[string]{"\xd0\x00\x00\x00\x00\x00\x00\x00", api.ErrRange}, // 2^60
		refused[string]{"\xff\xff\xff\xff\xff\xff\xff\xff", api.ErrRange})
	epoch := append(seq[:len(seq):len(seq)],
		refused[string]{"\x00", api.ErrRange},
		refused[string]{"\xc0\x00\x01\x00\x00\x00\x00\x01", api.ErrRange}, // 2^40 + 1
		refused[string]{"\xc0\x04\x00\x00\x00\x00\x00\x00", api.ErrRange}) // 2^50
	text := append(seq[:len(seq):len(seq)],
		refused[string]{"\x45\x79", api.ErrRange}, // 1401
		refused[string]{"\x45\x79" + data(1401), api.ErrRange},
		refused[string]{"\x80\x00\x40\x00", api.ErrRange},
		refused[string]{"\xc0\x00\x01\x00\x00\x00\x00\x00", api.ErrRange})
	return [4][]refused[string]{epoch, seq, seq, text}
}

// TestGetOfWrongFields is P9.2: each field wrong, with good ones ahead of it, and whatever stands behind it.
func TestGetOfWrongFields(t *testing.T) {
	for place, l := range wrong() {
		for _, front := range []string{"\x01\x01\x01", "\x01\x00\x00"} {
			for _, x := range l {
				for _, behind := range []string{"", "\x00", "\x01", "\x01\x01", "\x00\x00\x01x", "\x01\x01\x01x", "\x01\x01\x01xy", "\x40\x01", "\x40", "\xff"} {
					checkNoGet(t, sealed(front[:place]+x.it+behind), x.e)
				}
			}
		}
	}
}

// TestGetTellsTheFirst is P9.2: of two wrong fields, the first one's error.
func TestGetTellsTheFirst(t *testing.T) {
	for first, l := range wrong() {
		for second := first + 1; second < 4; second++ {
			for _, x := range l {
				for _, y := range wrong()[second] {
					b := [4]string{"\x01", "\x01", "\x01", "\x01x"}
					b[first], b[second] = x.it, y.it
					checkNoGet(t, sealed(b[0]+b[1]+b[2]+b[3]), x.e)
				}
			}
		}
	}
}

// TestGetForm is P9.2: Data with a Seq of 0 is ErrForm, behind what is wrong with the Data itself, and ahead of bytes that are left.
func TestGetForm(t *testing.T) {
	for _, n := range []int{1, 2, 63, 64, 1391, 1400} {
		b := "\x01\x00\x05" + number(n) + data(n)
		checkNoGet(t, sealed(b), api.ErrForm)
		checkNoGet(t, sealed(b+"x"), api.ErrForm)
		checkNoGet(t, sealed(b[:len(b)-1]), api.ErrCut)
	}
	for _, x := range []refused[string]{
		{"\x01\x00\x00\x00", api.OK},
		{"\x01\x00\x00\x00x", api.ErrMore},
		{"\x01\x00\x00\x01", api.ErrCut},
		{"\x01\x00\x00\x45\x79x", api.ErrRange},
		{"\x01\x00\x00\x40\x01x", api.ErrLong},
		{"\x00\x00\x00\x01x", api.ErrRange},
		{"\x00\x00\x00\x01xy", api.ErrRange},
		{"\x01\x40\x00\x00\x01x", api.ErrLong},
		{"\x01\x00\x40\x00\x01x", api.ErrLong},
		{"\x01\x01\x00\x01x", api.OK},
		{"\x01\x01\x00\x01xy", api.ErrMore},
	} {
		if f, e := Get(sealed(x.it)); e != x.e || e != api.OK && f != (api.Frame{}) {
			t.Errorf("Get of %x, sealed: %#v %d, not %d", x.it, f, e, x.e)
		}
	}
}

// TestGetTellsTheSumFirst is P9.2: ErrSum is told ahead of each error that the fields have.
func TestGetTellsTheSumFirst(t *testing.T) {
	for _, fields := range []string{"", "\x00", "\x01", "\x40\x01\x01\x00\x00", "\x01\x00\x00\x01x", "\x01\x01\x00\x00z", "\x01\x01\x00\x03ab", "\xff\xff\xff\xff\xff\xff\xff\xff"} {
		b := sealed(fields)
		for at := range 8 * len(b) {
			c, _ := changed(b, at, 1)
			checkNoGet(t, c, api.ErrSum)
		}
	}
}

// TestPutIsGot is P9.3.
func TestPutIsGot(t *testing.T) {
	for _, f := range many() {
		b, e := Put(f, 1400)
		if e != api.OK {
			t.Fatalf("Put %#v: %d", f, e)
		}
		checkGet(t, b, f, api.OK)
	}
	for _, x := range examples() {
		b, e := Put(x.f, 1400)
		if e != api.OK {
			t.Fatalf("Put %#v: %d", x.f, e)
		}
		checkGet(t, b, x.f, api.OK)
	}
}

// checkGotIsPut looks whether bytes, if they are a frame's, are those that it is put as, unless they are too long; whether they were a frame's.
func checkGotIsPut(t *testing.T, b string) bool {
	t.Helper()
	f, e := Get(b)
	if e != api.OK {
		if f != (api.Frame{}) {
			t.Errorf("%x: %#v beside %d", b, f, e)
		}
		return false
	}
	for _, mtu := range []int{64, max(64, min(len(b), 1400)), 1400} {
		if len(b) <= mtu {
			checkPut(t, f, mtu, b, api.OK)
		} else {
			checkNoPut(t, f, mtu, api.ErrLong)
		}
	}
	return true
}

// TestGotIsPut is P9.3: of fields out of some telling bytes, of examples with one byte changed, and of datagrams that are too long.
func TestGotIsPut(t *testing.T) {
	got := 0
	var try func(fields string, more int)
	try = func(fields string, more int) {
		if checkGotIsPut(t, sealed(fields)) {
			got++
		}
		if more == 0 {
			return
		}
		for _, c := range []byte("\x00\x01\x02\x05\x3f\x40\x80\xc0\xff") {
			try(fields+string([]byte{c}), more-1)
		}
	}
	try("", 6)
	for _, x := range examples() {
		for i := range min(len(x.fields), 40) {
			for c := range 256 {
				try(x.fields[:i]+string([]byte{byte(c)})+x.fields[i+1:], 0)
			}
		}
	}
	for n := 1360; n <= 1400; n++ {
		for _, f := range []api.Frame{of(1, 1, 1, data(n)), of(last, maxSeq, maxSeq, data(n))} {
			if !checkGotIsPut(t, datagram(f)) {
				t.Errorf("Data of %d bytes isn't got", n)
			}
		}
	}
	if got < 1000 {
		t.Errorf("just %d frames were got", got)
	}
}

// changed: b, its bits from the place at on turned over where mask has a 1, the lowest ones first, as the sum takes them; false: a bit stands behind b's end.
func changed(b string, at int, mask uint32) (string, bool) {
	l := []byte(b)
	for bit := range 32 {
		if mask>>bit&1 == 0 {
			continue
		}
		place := at + bit
		if place >= 8*len(l) {
			return "", false
		}
		l[place/8] ^= 1 << (place % 8)
	}
	return string(l), true
}

// TestOneBitChanged is P9.3: each single bit of a datagram.
func TestOneBitChanged(t *testing.T) {
	for _, x := range examples() {
		b := sealed(x.fields)
		for at := range 8 * len(b) {
			c, _ := changed(b, at, 1)
			checkNoGet(t, c, api.ErrSum)
		}
	}
}

// masks: bits within 32 on end: 2 to 32 of them side by side, two at each distance, and others that look like chance.
func masks() []uint32 {
	l := []uint32{0x82F63B78, 0xEDB88320, 0x55555555, 0xAAAAAAAA, 0xFF0000FF, 0xF00F00F0}
	for n := 2; n <= 32; n++ {
		l = append(l, uint32(1<<n-1), 1|1<<(n-1))
	}
	x := uint64(0x9e3779b97f4a7c15)
	for range 40 {
		x = x*6364136223846793005 + 1442695040888963407
		l = append(l, uint32(x>>32))
	}
	return l
}

// TestBitsChangedWithin32 is P9.3: at each place of a datagram, over the border of fields and sum too; unchanged it is got.
func TestBitsChangedWithin32(t *testing.T) {
	tried := 0
	for _, x := range examples() {
		b := sealed(x.fields)
		if len(b) > 100 {
			continue // crc's tests go through longer ones
		}
		for at := range 8 * len(b) {
			for _, mask := range masks() {
				if c, ok := changed(b, at, mask); ok {
					checkNoGet(t, c, api.ErrSum)
					tried++
				}
			}
		}
		checkGet(t, b, x.f, api.OK)
	}
	if tried < 100000 {
		t.Errorf("just %d changes were tried", tried)
	}
}

// fitting: lists of updates, from the shortest round to the longest.
func fitting() [][]api.Update {
	l := [][]api.Update{}
	for n := range 33 {
		text := data(n)
		for many := 1; many <= 8; many++ {
			us := []api.Update{}
			for range many {
				us = append(us, api.Update{Key: data(n%16 + 1), Kind: api.UText, S: text})
			}
			l = append(l, us)
		}
	}
	return l
}

// leastMTU: the least one that updates fit.
func leastMTU(us []api.Update) int {
	mtu := 64
	for mtu < 1400 && !round.Fits(us, mtu) {
		mtu++
	}
	return mtu
}

// TestRoundThatFits is P9.3: a round that fits an mtu is put in a frame of that mtu, whatever the frame's numbers, and is got out of it.
func TestRoundThatFits(t *testing.T) {
	for _, us := range fitting() {
		least := leastMTU(us)
		for _, origin := range []int{1, 64} {
			for _, n := range []int{1, 64, 1 << 14, 1 << 30, last} {
				b, e := round.Put(api.Round{Origin: origin, Number: n, Updates: us})
				if e != api.OK {
					t.Fatalf("round.Put %#v: %d", us, e)
				}
				for _, f := range []api.Frame{of(1, 1, 0, b), of(n, n, n, b), of(last, maxSeq, maxSeq, b)} {
					d := datagram(f)
					checkPut(t, f, least, d, api.OK)
					checkPut(t, f, 1400, d, api.OK)
					checkGet(t, d, f, api.OK)
				}
			}
		}
	}
}

// TestAnswersAreNew is rule 5: what Put and Get answer doesn't hang on what was handed in, once it was answered.
func TestAnswersAreNew(t *testing.T) {
	want := of(300, 70, 7, "hello")
	bytes := datagram(want)
	handed := []byte(bytes)
	f, e := Get(unsafe.String(&handed[0], len(handed)))
	if string(handed) != bytes {
		t.Errorf("Get changed its bytes: %x", handed)
	}
	clear(handed)
	if f != want || e != api.OK {
		t.Errorf("Get: %#v %d", f, e)
	}
	text := []byte("hello")
	b, e := Put(of(300, 70, 7, unsafe.String(&text[0], len(text))), 64)
	if string(text) != "hello" {
		t.Errorf("Put changed its Data: %x", text)
	}
	clear(text)
	if b != bytes || e != api.OK {
		t.Errorf("Put: %x %d", b, e)
	}
}

// TestHandedInStays is rule 5: no call changes the texts that it is handed, nor the room behind them, whatever it answers.
func TestHandedInStays(t *testing.T) {
	for _, x := range []string{"\x01\x01\x00\x05hello", "\x01\x00\x05\x00", "\x00", "\x01\x00\x00\x01x", "\x01\x01\x00\x00z", "\x40\x01"} {
		whole := sealed(x) + "spare room"
		room := []byte(whole)
		for n := 1; n <= len(sealed(x)); n++ {
			handed := unsafe.String(&room[0], n)
			Get(handed)
			for _, mtu := range []int{0, 64, 1400} {
				Put(of(1, 1, 1, handed), mtu)
				Put(of(1, 0, 1, handed), mtu)
				Put(of(0, 1, 1, handed), mtu)
			}
			if string(room) != whole {
				t.Fatalf("of %d bytes: %x, not %x", n, room, whole)
			}
		}
	}
}

// TestAgain is rule 6: asked again, behind other calls, each call answers the same.
func TestAgain(t *testing.T) {
	for range 2 {
		for _, x := range examples() {
			checkPut(t, x.f, 1400, sealed(x.fields), api.OK)
			checkNoPut(t, of(1, 0, 0, "x"), 64, api.ErrForm)
			checkGet(t, sealed(x.fields), x.f, api.OK)
			checkNoGet(t, x.fields, api.ErrSum)
		}
	}
}
