package prefix

import (
	"math"
	"math/bits"
	"strings"
	"testing"

	"chapbook/api"
)

const tooGreat = 1 << 62

// numberBytes: numbers with their bytes, written out: the document's examples, RFC 9000's, and all edges with their neighbours.
var numberBytes = []struct {
	n uint64
	b string
}{
	{0, "\x00"},
	{1, "\x01"},
	{37, "\x25"},
	{62, "\x3e"},
	{1<<6 - 1, "\x3f"},
	{1 << 6, "\x40\x40"},
	{1<<6 + 1, "\x40\x41"},
	{300, "\x41\x2c"},
	{15293, "\x7b\xbd"},
	{1<<14 - 2, "\x7f\xfe"},
	{1<<14 - 1, "\x7f\xff"},
	{1 << 14, "\x80\x00\x40\x00"},
	{1<<14 + 1, "\x80\x00\x40\x01"},
	{494878333, "\x9d\x7f\x3e\x7d"},
	{1<<30 - 2, "\xbf\xff\xff\xfe"},
	{1<<30 - 1, "\xbf\xff\xff\xff"},
	{1 << 30, "\xc0\x00\x00\x00\x40\x00\x00\x00"},
	{1<<30 + 1, "\xc0\x00\x00\x00\x40\x00\x00\x01"},
	{151288809941952652, "\xc2\x19\x7c\x5e\xff\x14\xe8\x8c"},
	{tooGreat - 2, "\xff\xff\xff\xff\xff\xff\xff\xfe"},
	{tooGreat - 1, "\xff\xff\xff\xff\xff\xff\xff\xff"},
}

// tooGreatNumbers: numbers that have no bytes.
var tooGreatNumbers = []uint64{tooGreat, tooGreat + 1, 1<<63 - 1, 1 << 63, 1<<63 + 1, math.MaxUint64 - 1, math.MaxUint64}

// sampleNumbers: for each count of bits the least and the greatest number, and some between, always the same ones.
func sampleNumbers() []uint64 {
	var l []uint64
	x := uint64(0x9e3779b97f4a7c15)
	for width := range 65 {
		top := uint64(math.MaxUint64) >> (64 - width)
		l = append(l, top, top/2+1, top/2)
		for range 50 {
			x = x*6364136223846793005 + 1442695040888963407
			l = append(l, bits.Reverse64(x)&top)
		}
	}
	return l
}

// wantSize: P1.1's count, said by the bounds themselves.
func wantSize(n uint64) int {
	switch {
	case n < 1<<6:
		return 1
	case n < 1<<14:
		return 2
	case n < 1<<30:
		return 4
	case n < tooGreat:
		return 8
	}
	return 0
}

func checkGet(t *testing.T, b string, at int, n uint64, next int, e api.Errno) {
	t.Helper()
	if gn, gnext, ge := Get(b, at); gn != n || gnext != next || ge != e {
		t.Errorf("Get(%x, %d): %d %d %d; want %d %d %d", b, at, gn, gnext, ge, n, next, e)
	}
}

// P1.1
func TestSizeAndPut(t *testing.T) {
	for _, x := range numberBytes {
		if s := Size(x.n); s != len(x.b) {
			t.Errorf("Size(%d): %d; want %d", x.n, s, len(x.b))
		}
		if b, e := Put(x.n); b != x.b || e != api.OK {
			t.Errorf("Put(%d): %x %d; want %x", x.n, b, e, x.b)
		}
	}
}

// P1.1
func TestSizeOfSamples(t *testing.T) {
	for _, n := range sampleNumbers() {
		if s := Size(n); s != wantSize(n) {
			t.Errorf("Size(%d): %d; want %d", n, s, wantSize(n))
		}
		if b, _ := Put(n); len(b) != wantSize(n) {
			t.Errorf("Put(%d): %x; want %d bytes", n, b, wantSize(n))
		}
	}
}

// P1.1
func TestTooGreat(t *testing.T) {
	for _, n := range tooGreatNumbers {
		if s := Size(n); s != 0 {
			t.Errorf("Size(%d): %d; want 0", n, s)
		}
		if b, e := Put(n); b != "" || e != api.ErrRange {
			t.Errorf("Put(%d): %x %d; want ErrRange and no bytes", n, b, e)
		}
	}
}

// P1.2
func TestGet(t *testing.T) {
	for _, x := range numberBytes {
		for _, ahead := range []string{"", "\xff", "\x00\x40\x80"} {
			for _, behind := range []string{"", "\x00", "\xff\xff\xff\xff\xff\xff\xff\xff"} {
				checkGet(t, ahead+x.b+behind, len(ahead), x.n, len(ahead)+len(x.b), api.OK)
			}
		}
	}
}

// P1.2: numbers one behind the other are got by the place behind.
func TestGetOneBehindTheOther(t *testing.T) {
	var all strings.Builder
	for _, x := range numberBytes {
		all.WriteString(x.b)
	}
	at := 0
	for _, x := range numberBytes {
		checkGet(t, all.String(), at, x.n, at+len(x.b), api.OK)
		at += len(x.b)
	}
	checkGet(t, all.String(), at, 0, 0, api.ErrCut)
}

// P1.2
func TestGetOutOfRange(t *testing.T) {
	for _, b := range []string{"", "\x25", "\x7b\xbd", "\x7b", "\x40\x25"} {
		for _, at := range []int{-1, -2, -8, len(b) + 1, len(b) + 2, len(b) + 8, math.MinInt, math.MaxInt, math.MaxInt - 7} {
			checkGet(t, b, at, 0, 0, api.ErrRange)
		}
	}
}

// P1.2: every true beginning of a number's bytes is cut, the empty one too, wherever it stands.
func TestGetCut(t *testing.T) {
	for _, x := range numberBytes {
		for k := range len(x.b) {
			checkGet(t, x.b[:k], 0, 0, 0, api.ErrCut)
			checkGet(t, "\x25\x25"+x.b[:k], 2, 0, 0, api.ErrCut)
		}
	}
}

// P1.2: ErrCut goes ahead of ErrLong.
func TestGetCutOfLong(t *testing.T) {
	for _, b := range []string{"\x40", "\x80", "\x80\x00", "\x80\x00\x00", "\xc0", "\xc0\x00\x00\x00\x00\x00\x00"} {
		checkGet(t, b, 0, 0, 0, api.ErrCut)
	}
}

// P1.2
func TestGetLong(t *testing.T) {
	for _, b := range []string{
		"\x40\x00", "\x40\x25", "\x40\x3f",
		"\x80\x00\x00\x00", "\x80\x00\x00\x3f", "\x80\x00\x00\x40", "\x80\x00\x3f\xff",
		"\xc0\x00\x00\x00\x00\x00\x00\x00", "\xc0\x00\x00\x00\x00\x00\x00\x3f", "\xc0\x00\x00\x00\x00\x00\x3f\xff",
		"\xc0\x00\x00\x00\x00\x00\x40\x00", "\xc0\x00\x00\x00\x3f\xff\xff\xff",
	} {
		checkGet(t, b, 0, 0, 0, api.ErrLong)
		checkGet(t, "\xff"+b+"\xff", 1, 0, 0, api.ErrLong)
	}
}

// P1.2
func TestZigAndZag(t *testing.T) {
	for _, x := range []struct {
		n int64
		z uint64
	}{
		{0, 0}, {-1, 1}, {1, 2}, {-2, 3}, {2, 4}, {-3, 5}, {3, 6}, {150, 300}, {-151, 301},
		{math.MaxInt32, 1<<32 - 2}, {math.MinInt32, 1<<32 - 1},
		{1<<61 - 2, tooGreat - 4}, {-1<<61 + 1, tooGreat - 3}, {1<<61 - 1, tooGreat - 2}, {-1 << 61, tooGreat - 1},
	} {
		if z, ok := Zig(x.n); z != x.z || !ok {
			t.Errorf("Zig(%d): %d %v; want %d", x.n, z, ok, x.z)
		}
		if n := Zag(x.z); n != x.n {
			t.Errorf("Zag(%d): %d; want %d", x.z, n, x.n)
		}
	}
}

// P1.2
func TestZigTooGreat(t *testing.T) {
	for _, n := range []int64{1 << 61, 1<<61 + 1, -1<<61 - 1, -1<<61 - 2, 1 << 62, -1 << 62, -1<<62 - 1, math.MaxInt64 - 1, math.MaxInt64, math.MinInt64 + 1, math.MinInt64} {
		if z, ok := Zig(n); z != 0 || ok {
			t.Errorf("Zig(%d): %d %v; want 0, false", n, z, ok)
		}
	}
}

// P1.2
func TestZagTooGreat(t *testing.T) {
	for _, n := range tooGreatNumbers {
		if s := Zag(n); s != 0 {
			t.Errorf("Zag(%d): %d; want 0", n, s)
		}
	}
}

// P1.3
func TestPutIsGot(t *testing.T) {
	for _, n := range sampleNumbers() {
		if n >= tooGreat {
			continue
		}
		b, e := Put(n)
		if e != api.OK {
			t.Errorf("Put(%d): %d", n, e)
		}
		checkGet(t, b, 0, n, len(b), api.OK)
	}
}

// P1.3: of all texts of one and two bytes, and of many of eight, what is got is put as it was.
func TestGotIsPut(t *testing.T) {
	for i := range 1 << 16 {
		two := string([]byte{byte(i >> 8), byte(i)})
		checkPutAgain(t, two)
		checkPutAgain(t, two[:1])
	}
	for _, n := range sampleNumbers() {
		var b []byte
		for k := range 8 {
			b = append(b, byte(n>>(8*k)))
		}
		checkPutAgain(t, string(b))
		b[0] |= 0x80
		checkPutAgain(t, string(b))
	}
}

func checkPutAgain(t *testing.T, b string) {
	t.Helper()
	n, next, e := Get(b, 0)
	if e != api.OK {
		if n != 0 || next != 0 {
			t.Errorf("Get(%x, 0): %d %d beside the error %d", b, n, next, e)
		}
		return
	}
	if again, e := Put(n); again != b[:next] || e != api.OK {
		t.Errorf("Put(%d): %x %d; got of %x", n, again, e, b[:next])
	}
}

// P1.3
func TestZigIsZagged(t *testing.T) {
	for _, u := range sampleNumbers() {
		n := int64(u)
		if z, ok := Zig(n); ok && Zag(z) != n {
			t.Errorf("Zag(%d): %d; want %d", z, Zag(z), n)
		}
		if z, ok := Zig(Zag(u)); u < tooGreat && (z != u || !ok) {
			t.Errorf("Zig(%d): %d %v; want %d", Zag(u), z, ok, u)
		}
	}
}

// P1.3
func TestGreaterHasNoFewerBytes(t *testing.T) {
	l := sampleNumbers()
	for _, n := range l {
		for _, m := range l {
			if n < m && m < tooGreat && Size(n) > Size(m) {
				t.Errorf("Size(%d): %d; Size(%d): %d", n, Size(n), m, Size(m))
			}
		}
	}
}
