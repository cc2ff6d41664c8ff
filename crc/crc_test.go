package crc

import (
	"hash/crc32"
	"strings"
	"testing"
)

// bitByBit: a text's sum as the document's words say it, from a register on; the register that comes of it, turned over.
func bitByBit(register uint32, b string) uint32 {
	for i := range len(b) {
		for bit := range 8 {
			differ := register&1 != uint32(b[i]>>bit&1)
			register >>= 1
			if differ {
				register ^= 0x82F63B78
			}
		}
	}
	return ^register
}

// rising: bytes from the first one on, each one greater by step.
func rising(first, step, count int) string {
	b := make([]byte, count)
	for i := range b {
		b[i] = byte(first + i*step)
	}
	return string(b)
}

// sampleWords: words that look like chance, always the same ones.
func sampleWords(count int) []uint32 {
	l := make([]uint32, count)
	x := uint64(0x9e3779b97f4a7c15)
	for i := range l {
		x = x*6364136223846793005 + 1442695040888963407
		l[i] = uint32(x >> 32)
	}
	return l
}

// sampleTexts: texts of many lengths, with zeros ahead and behind too, where sums that begin or end otherwise differ.
func sampleTexts() []string {
	l := []string{"", "\x00", "\xff", "\x01", "\x80", "a", "abc", "123456789", "k=5", strings.Repeat("\x00", 32), strings.Repeat("\xff", 32)}
	for i, w := range sampleWords(70) {
		b := rising(int(w>>8), int(w|1), i)
		l = append(l, b, "\x00"+b, b+"\x00", "\xff"+b+"\xff")
	}
	return append(l, rising(7, 31, 1400), rising(3, 5, 1<<16+1))
}

// knownSums: sums written out: the document's examples, RFC 3720's section B.4, and single bytes.
var knownSums = []struct {
	b   string
	sum uint32
}{
	{"", 0},
	{"123456789", 0xE3069283},
	{"\x00", 0x527D5351},
	{"\xff", 0xFF000000},
	{"a", 0xC1D04330},
	{strings.Repeat("\x00", 32), 0x8A9136AA},
	{strings.Repeat("\xff", 32), 0x62A8AB43},
	{rising(0, 1, 32), 0x46DD794E},
	{rising(31, -1, 32), 0x113FDB5C},
	{"\x01\xc0\x00\x00\x00\x00\x00\x00\x00\x00\x00\x00\x00\x00\x00\x00\x14\x00\x00\x00\x00\x00\x04\x00\x00\x00\x00\x14\x00\x00\x00\x18\x28\x00\x00\x00\x00\x00\x00\x00\x02\x00\x00\x00\x00\x00\x00\x00", 0xD9963A56},
}

// P2.1
func TestSum(t *testing.T) {
	for _, x := range knownSums {
		if s := Sum(x.b); s != x.sum {
			t.Errorf("Sum(%x): %08X; want %08X", x.b, s, x.sum)
		}
	}
}

// The table that is laid at the start-up holds steps of eight bits: each row is what the document's words make of a register's lowest byte by eight bits 0. No answer hangs on it, so that only this tells.
func TestTableOfSteps(t *testing.T) {
	if len(steps) != 256 {
		t.Fatalf("%d rows", len(steps))
	}
	for i, row := range steps {
		if want := ^bitByBit(uint32(i), "\x00"); row != want {
			t.Errorf("row %d: %08X; want %08X", i, row, want)
		}
	}
}

// P2.1: no sum hangs on what the table holds.
func TestSumsWithoutTable(t *testing.T) {
	kept := steps
	defer func() { steps = kept }()
	for i := range steps {
		steps[i] = ^steps[i]
	}
	for _, x := range knownSums {
		if s := Sum(x.b); s != x.sum {
			t.Errorf("Sum(%x): %08X; want %08X", x.b, s, x.sum)
		}
		checkOpens(t, Seal(x.b), x.b)
	}
}

// P2.1: each single byte, so each step of eight bits.
func TestSumOfEachByte(t *testing.T) {
	for i := range 256 {
		b := string([]byte{byte(i)})
		if s := Sum(b); s != bitByBit(0xFFFFFFFF, b) {
			t.Errorf("Sum(%x): %08X; want %08X", b, s, bitByBit(0xFFFFFFFF, b))
		}
	}
}

// P2.1: the words of the document, and another's work on the same sum.
func TestSumOfSamples(t *testing.T) {
	table := crc32.MakeTable(crc32.Castagnoli)
	for _, b := range sampleTexts() {
		s := Sum(b)
		if s != bitByBit(0xFFFFFFFF, b) || s != crc32.Checksum([]byte(b), table) {
			t.Errorf("Sum of %d bytes: %08X; want %08X", len(b), s, bitByBit(0xFFFFFFFF, b))
		}
	}
}

// P2.1: a text in two parts, at each place, both ends too.
func TestMoreInTwoParts(t *testing.T) {
	for _, b := range sampleTexts() {
		if len(b) > 1400 {
			continue
		}
		for at := range len(b) + 1 {
			if s := More(Sum(b[:at]), b[at:]); s != Sum(b) {
				t.Errorf("%x in two parts at %d: %08X; want %08X", b, at, s, Sum(b))
			}
		}
	}
}

// P2.1: byte by byte.
func TestMoreByteByByte(t *testing.T) {
	b := rising(200, 77, 1400)
	sum := uint32(0)
	for i := range len(b) {
		sum = More(sum, b[i:i+1])
		if sum != Sum(b[:i+1]) {
			t.Fatalf("byte by byte, %d bytes: %08X; want %08X", i+1, sum, Sum(b[:i+1]))
		}
	}
}

// P2.1: whatever sum: it is the register, turned over, ahead of the bytes; no bytes leave it.
func TestMoreOfAnySum(t *testing.T) {
	for _, sum := range append(sampleWords(50), 0, 1, 0x80000000, 0x7FFFFFFF, 0xFFFFFFFE, 0xFFFFFFFF, 0x82F63B78) {
		if s := More(sum, ""); s != sum {
			t.Errorf("More(%08X, nothing): %08X", sum, s)
		}
		for _, b := range []string{"\x00", "\xff", "a", "123456789", "\x00\x00\x00\x00", "\xff\xff\xff\xff", rising(9, 13, 33)} {
			if s := More(sum, b); s != bitByBit(^sum, b) {
				t.Errorf("More(%08X, %x): %08X; want %08X", sum, b, s, bitByBit(^sum, b))
			}
		}
	}
}

func checkOpens(t *testing.T, b, want string) {
	t.Helper()
	if s, ok := Open(b); s != want || !ok {
		t.Errorf("Open(%x): %x %v; want %x", b, s, ok, want)
	}
}

func checkShut(t *testing.T, b string) {
	t.Helper()
	if s, ok := Open(b); s != "" || ok {
		t.Errorf("Open(%x): %x %v; want the empty text, false", b, s, ok)
	}
}

// P2.2
func TestSealAndOpen(t *testing.T) {
	for _, x := range []struct{ b, sealed string }{
		{"", "\x00\x00\x00\x00"},
		{"123456789", "123456789\x83\x92\x06\xe3"},
		{"\x00", "\x00\x51\x53\x7d\x52"},
		{"\xff", "\xff\x00\x00\x00\xff"},
		{"a", "a\x30\x43\xd0\xc1"},
	} {
		if s := Seal(x.b); s != x.sealed {
			t.Errorf("Seal(%x): %x; want %x", x.b, s, x.sealed)
		}
		checkOpens(t, x.sealed, x.b)
	}
}

// P2.2
func TestSealOfSamples(t *testing.T) {
	for _, b := range sampleTexts() {
		sum := Sum(b)
		want := b + string([]byte{byte(sum), byte(sum >> 8), byte(sum >> 16), byte(sum >> 24)})
		if s := Seal(b); s != want {
			t.Errorf("Seal of %d bytes ends in %x; want %x", len(b), s[max(0, len(s)-4):], want[len(b):])
		}
	}
}

// P2.2: fewer than four bytes are none that Seal gives.
func TestOpenTooShort(t *testing.T) {
	checkShut(t, "")
	for i := range 256 {
		x := string([]byte{byte(i)})
		checkShut(t, x)
		for _, fill := range []string{"\x00", "\xff", x} {
			checkShut(t, x+fill)
			checkShut(t, fill+x)
			checkShut(t, fill+x+fill)
		}
	}
}

// P2.2: of four bytes, just four times 00 are the seal of the empty text.
func TestOpenOfFourBytes(t *testing.T) {
	checkOpens(t, "\x00\x00\x00\x00", "")
	for at := range 4 {
		for i := 1; i < 256; i++ {
			b := make([]byte, 4)
			b[at] = byte(i)
			checkShut(t, string(b))
		}
	}
	for _, b := range []string{"\xff\xff\xff\xff", "\x01\x01\x01\x01", "1234", "\x83\x92\x06\xe3"} {
		checkShut(t, b)
	}
}

// P2.2: the sum in another order, or of a beginning or an end of the text, or cut, or with more behind it.
func TestOpenOfWrongBytes(t *testing.T) {
	for _, b := range []string{
		"123456789",
		"123456789\xe3\x06\x92\x83",
		"123456789\x00\x00\x00\x00",
		"123456789\x7c\x6d\xf9\x1c",
		"23456789\x83\x92\x06\xe3",
		"12345678\x83\x92\x06\xe3",
		"\x83\x92\x06\xe3123456789",
		"123456789\x83\x92\x06",
		"123456789\x83\x92\x06\xe3\x00",
		"\x00123456789\x83\x92\x06\xe3",
		"\x00\x00\x00\x00\x00",
		"\x00\x00\x00\x00\x00\x00\x00\x00",
	} {
		checkShut(t, b)
	}
}

// P2.2: of whatever bytes, just what Seal gives is opened.
func TestOpenedIsSealedAgain(t *testing.T) {
	for _, b := range sampleTexts() {
		s, ok := Open(b)
		if ok && Seal(s) != b || !ok && s != "" {
			t.Errorf("Open(%x): %x %v", b, s, ok)
		}
		if len(b) >= 4 && !ok && Seal(b[:len(b)-4]) == b {
			t.Errorf("Open(%x): false, but it is sealed", b)
		}
	}
}

// P2.3
func TestSealedIsOpened(t *testing.T) {
	for _, b := range sampleTexts() {
		checkOpens(t, Seal(b), b)
		checkOpens(t, Seal(Seal(b)), Seal(b))
	}
}

// changed: b, its bits from the place at on turned over where mask has a 1, the lowest ones first; false: a bit stands behind b's end.
func changed(b string, at int, mask uint32) (string, bool) {
	l := []byte(b)
	for bit := range 32 {
		if mask>>bit&1 == 0 {
			continue
		}
		place := at + bit
		if place >= 8*len(l) {
			return "", false
		}
		l[place/8] ^= 1 << (place % 8)
	}
	return string(l), true
}

// sealedSamples: sealed texts on which each place is tried.
func sealedSamples() []string {
	return []string{Seal(""), Seal("\x00"), Seal("\xff"), Seal("123456789"), Seal(rising(5, 3, 40)), Seal(strings.Repeat("\x00", 40)), Seal(strings.Repeat("\xff", 40))}
}

// P2.3: each single bit, of the text and of the sum.
func TestOneBitChanged(t *testing.T) {
	for _, b := range append(sealedSamples(), Seal(rising(1, 7, 1400))) {
		for at := range 8 * len(b) {
			c, _ := changed(b, at, 1)
			checkShut(t, c)
		}
	}
}

// P2.3: several bits within 32 on end, at each place, over the border of text and sum too.
func TestBitsChangedWithin32(t *testing.T) {
	masks := append(sampleWords(100), 0xFFFFFFFF, 0x80000001, 0x00000003, 0x82F63B78, 0xEDB88320, 0x1EDC6F41, 0x000000FF, 0x00FF0000, 0x55555555, 0xAAAAAAAA)
	for _, b := range sealedSamples() {
		for at := range 8 * len(b) {
			for _, mask := range masks {
				if c, ok := changed(b, at, mask); ok {
					checkShut(t, c)
				}
			}
		}
	}
}

// P2.3: two bits, each distance up to 31.
func TestTwoBitsChanged(t *testing.T) {
	for _, b := range sealedSamples() {
		for at := range 8 * len(b) {
			for d := 1; d < 32; d++ {
				if c, ok := changed(b, at, 1|1<<d); ok {
					checkShut(t, c)
				}
			}
		}
	}
}

// P2.3: unless none was changed.
func TestNoBitChanged(t *testing.T) {
	for _, b := range sealedSamples() {
		c, _ := changed(b, 0, 0)
		checkOpens(t, c, b[:len(b)-4])
	}
}
