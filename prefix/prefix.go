// Package prefix is layer 1: see shared/doc/01-prefix.md.
package prefix

import "chapbook/api"

// widths tells how many bytes a number has, by its tag: the two highest bits of its first byte.
var widths = [4]int{1, 2, 4, 8}

// tagBits is what a tag takes away from a number's own bits.
const tagBits = 2

// Put: a number's bytes.
func Put(n uint64) (string, api.Errno) {
	tag, ok := tagOf(n)
	if !ok {
		return "", api.ErrRange
	}
	tagged := uint64(tag)<<ownBits(tag) | n
	b := make([]byte, widths[tag])
	for i := len(b) - 1; i >= 0; i-- {
		b[i] = byte(tagged)
		tagged >>= 8
	}
	return string(b), api.OK
}

// Get: the number that stands at a place, and the place behind it.
func Get(b string, at int) (uint64, int, api.Errno) {
	if at < 0 || at > len(b) {
		return 0, 0, api.ErrRange
	}
	rest := b[at:]
	if rest == "" {
		return 0, 0, api.ErrCut
	}
	width := widths[rest[0]>>(8-tagBits)]
	if len(rest) < width {
		return 0, 0, api.ErrCut
	}
	n := untagged(rest[:width])
	if Size(n) < width {
		return 0, 0, api.ErrLong
	}
	return n, at + width, api.OK
}

// Size: how many bytes it has; 0: it is too great.
func Size(n uint64) int {
	tag, ok := tagOf(n)
	if !ok {
		return 0
	}
	return widths[tag]
}

// Zig: a signed number as one without a sign.
func Zig(n int64) (uint64, bool) {
	// The sign's bit, spread over the word, turns over all bits of twice a negative number: that is twice -n, less 1, without the overflow that -n has of the least one.
	z := uint64(n)<<1 ^ uint64(n>>63)
	if Size(z) == 0 {
		return 0, false
	}
	return z, true
}

// Zag: that signed one again.
func Zag(n uint64) int64 {
	if Size(n) == 0 {
		return 0
	}
	return int64(n>>1) ^ -int64(n&1)
}

// tagOf: the least tag whose bytes hold a number; false: none does.
func tagOf(n uint64) (int, bool) {
	for tag := range len(widths) {
		if n>>ownBits(tag) == 0 {
			return tag, true
		}
	}
	return 0, false
}

// ownBits: how many bits a tag's bytes have beside the tag.
func ownBits(tag int) uint {
	return uint(8*widths[tag] - tagBits)
}

// untagged: the number that a whole number's bytes hold.
func untagged(b string) uint64 {
	n := uint64(b[0] & (1<<(8-tagBits) - 1))
	for i := 1; i < len(b); i++ {
		n = n<<8 | uint64(b[i])
	}
	return n
}
