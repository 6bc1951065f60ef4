// Package leb is layer 1, whole numbers as bytes: see shared/doc/01-leb.md.
package leb

import "apograph/api"

const (
	more    = 128 // added to each byte of a number but its last
	bits    = 7   // of a number in each byte
	longest = 10  // bytes of a number below 2^64
)

// Put: P1.1. The answer is new memory even where b has room behind it, so that b's owner sees no change.
func Put(b []byte, l ...uint64) []byte {
	out := make([]byte, 0, len(b)+total(l...))
	out = append(out, b...)
	for _, n := range l {
		for n >= more {
			out = append(out, byte(n)|more)
			n >>= bits
		}
		out = append(out, byte(n))
	}
	return out
}

func total(l ...uint64) int {
	sum := 0
	for _, n := range l {
		sum += Size(n)
	}
	return sum
}

// Of: P1.2.
func Of(b []byte) (n uint64, size int, e api.Errno) {
	for i := 0; i < len(b) && i < longest; i++ {
		n |= uint64(b[i]&^more) << (bits * i)
		if b[i] >= more {
			continue
		}
		if !mayEnd(b[i], i) {
			return 0, 0, api.ErrPack
		}
		return n, i + 1, api.OK
	}
	return 0, 0, api.ErrPack
}

// mayEnd: a last byte of 0 behind others isn't needed, and above the 63 bits of nine bytes there is room for one more only.
func mayEnd(last byte, place int) bool {
	if place == longest-1 {
		return last == 1
	}
	return last != 0 || place == 0
}

// Size: P1.1.
func Size(n uint64) int {
	size := 1
	for n >= more {
		n >>= bits
		size++
	}
	return size
}

// All: P1.2.
func All(b []byte) ([]uint64, api.Errno) {
	var l []uint64
	for at := 0; at < len(b); {
		n, size, e := Of(b[at:])
		if e != api.OK {
			return nil, e
		}
		l = append(l, n)
		at += size
	}
	return l, api.OK
}

// Zig: P1.3. Below 0, -2 * n - 1 is 2 * n with every bit turned, which the sign, shifted down over all bits, does without an overflow.
func Zig(n int64) uint64 {
	return uint64(n)<<1 ^ uint64(n>>63)
}

// Zag: P1.3. An odd u came of a number below 0: its bits are turned back.
func Zag(u uint64) int64 {
	return int64(u>>1) ^ -int64(u&1)
}
