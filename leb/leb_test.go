package leb_test

import (
	"bytes"
	"math"
	"math/big"
	"slices"
	"testing"

	"apograph/api"
	"apograph/leb"
)

// sized is the least and the greatest number of each size, as numbers and as bytes.
type sized struct {
	size            int
	least, greatest uint64
	low, high       []byte
}

func sizes() []sized {
	var l []sized
	for size := 1; size <= 10; size++ {
		s := sized{size: size}
		s.least = 1 << (7 * (size - 1))
		s.greatest = 1<<(7*size) - 1
		s.low = append(bytes.Repeat([]byte{128}, size-1), 1)
		s.high = append(bytes.Repeat([]byte{255}, size-1), 127)
		if size == 1 {
			s.least, s.low = 0, []byte{0}
		}
		if size == 10 {
			s.greatest, s.high[9] = math.MaxUint64, 1
		}
		l = append(l, s)
	}
	return l
}

// edges are numbers around every power of two.
func edges() []uint64 {
	var l []uint64
	for i := 0; i < 64; i++ {
		p := uint64(1) << i
		l = append(l, p-1, p, p+1, ^p, -p)
	}
	return append(l, 300, 1000000, math.MaxUint64)
}

// meant tells, with numbers of any size, what the chapter says of the number with which b begins.
func meant(b []byte) (n uint64, size int, ok bool) {
	sum := new(big.Int)
	for i, c := range b {
		part := big.NewInt(int64(c % 128))
		sum.Add(sum, part.Lsh(part, uint(7*i)))
		if c >= 128 {
			continue
		}
		if !sum.IsUint64() || i > 0 && c == 0 {
			return 0, 0, false
		}
		return sum.Uint64(), i + 1, true
	}
	return 0, 0, false
}

// texts calls f with all texts of at most so many bytes, made of bytes around the edges of seven and eight bits.
func texts(most int, f func([]byte)) {
	var grow func([]byte)
	grow = func(b []byte) {
		f(b)
		if len(b) == most {
			return
		}
		for _, c := range []byte{0, 1, 2, 127, 128, 129, 255} {
			grow(append(slices.Clone(b), c))
		}
	}
	grow(nil)
}

// P1.1, the chapter's first example.
func TestPutExample(t *testing.T) {
	if b := leb.Put(nil, 300); !bytes.Equal(b, []byte{172, 2}) {
		t.Error(b)
	}
}

// P1.1
func TestPutAndSizeOfEachSize(t *testing.T) {
	for _, s := range sizes() {
		if b := leb.Put(nil, s.least); !bytes.Equal(b, s.low) {
			t.Error("least", s.size, b)
		}
		if b := leb.Put(nil, s.greatest); !bytes.Equal(b, s.high) {
			t.Error("greatest", s.size, b)
		}
		if leb.Size(s.least) != s.size || leb.Size(s.greatest) != s.size {
			t.Error("size", s.size, leb.Size(s.least), leb.Size(s.greatest))
		}
	}
}

// P1.1
func TestPutEdges(t *testing.T) {
	for _, n := range edges() {
		b := leb.Put(nil, n)
		m, size, ok := meant(b)
		if !ok || m != n || size != len(b) || size != leb.Size(n) {
			t.Error(n, b, leb.Size(n))
		}
	}
}

// P1.1
func TestPutLaysBehind(t *testing.T) {
	if b := leb.Put([]byte{9, 128}, 1, 300, 0, 127, 128); !bytes.Equal(b, []byte{9, 128, 1, 172, 2, 0, 127, 128, 1}) {
		t.Error(b)
	}
	if b := leb.Put([]byte{9, 128}); !bytes.Equal(b, []byte{9, 128}) {
		t.Error("no number", b)
	}
	if b := leb.Put(nil); len(b) != 0 {
		t.Error("nothing at all", b)
	}
	if b := leb.Put([]byte{}, []uint64{}...); len(b) != 0 {
		t.Error("empty lists", b)
	}
}

// P2: neither the bytes nor the room behind them are written or shared.
func TestPutSharesNothing(t *testing.T) {
	room := []byte{1, 2, 3, 4, 5, 6}
	l := []uint64{300, 7}
	first := leb.Put(room[:2], l...)
	second := leb.Put(room[:2], l...)
	alone := leb.Put(room[:2])
	for i := range first {
		first[i] = 99
	}
	for i := range alone {
		alone[i] = 99
	}
	if !bytes.Equal(room, []byte{1, 2, 3, 4, 5, 6}) || !slices.Equal(l, []uint64{300, 7}) {
		t.Error("an argument was changed", room, l)
	}
	if !bytes.Equal(second, []byte{1, 2, 172, 2, 7}) {
		t.Error("answers share memory", second)
	}
}

// P1.2
func TestOfEachSize(t *testing.T) {
	for _, s := range sizes() {
		for _, rest := range [][]byte{nil, {0}, {128}, {255, 255}} {
			n, size, e := leb.Of(append(slices.Clone(s.low), rest...))
			if n != s.least || size != s.size || e != api.OK {
				t.Error("least", s.size, rest, n, size, e)
			}
			n, size, e = leb.Of(append(slices.Clone(s.high), rest...))
			if n != s.greatest || size != s.size || e != api.OK {
				t.Error("greatest", s.size, rest, n, size, e)
			}
		}
	}
}

func refused(t *testing.T, b []byte) {
	t.Helper()
	if n, size, e := leb.Of(b); n != 0 || size != 0 || e != api.ErrPack {
		t.Error("Of", b, n, size, e)
	}
	if len(b) == 0 {
		return
	}
	if l, e := leb.All(b); len(l) != 0 || e != api.ErrPack {
		t.Error("All", b, l, e)
	}
	if l, e := leb.All(append([]byte{5, 172, 2}, b...)); len(l) != 0 || e != api.ErrPack {
		t.Error("All, behind good ones", b, l, e)
	}
}

// P1.2, the chapter's second example among them.
func TestMoreBytesThanMust(t *testing.T) {
	refused(t, []byte{128, 0})
	for size := 2; size <= 12; size++ {
		refused(t, append(bytes.Repeat([]byte{128}, size-1), 0))
		refused(t, append(bytes.Repeat([]byte{255}, size-1), 0))
	}
}

// P1.2
func TestEndTooEarly(t *testing.T) {
	refused(t, nil)
	refused(t, []byte{})
	for size := 1; size <= 12; size++ {
		refused(t, bytes.Repeat([]byte{128}, size))
		refused(t, bytes.Repeat([]byte{255}, size))
	}
	room := []byte{172, 2}
	refused(t, room[:1])
}

// P1.2
func TestNotBelowTwoToThe64(t *testing.T) {
	for _, fill := range []byte{128, 129, 255} {
		for last := 2; last < 256; last++ {
			refused(t, append(bytes.Repeat([]byte{fill}, 9), byte(last)))
			refused(t, append(bytes.Repeat([]byte{fill}, 9), byte(last), 1))
		}
		for size := 11; size <= 20; size++ {
			refused(t, append(bytes.Repeat([]byte{fill}, size-1), 1))
		}
	}
}

// P1.2
func TestOfAsMeant(t *testing.T) {
	check := func(b []byte) {
		n, size, ok := meant(b)
		m, got, e := leb.Of(b)
		if m != n || got != size || ok != (e == api.OK) || !ok && e != api.ErrPack {
			t.Error(b, m, got, e)
		}
	}
	texts(6, check)
	for _, fill := range []byte{128, 255} {
		texts(4, func(b []byte) {
			check(append(bytes.Repeat([]byte{fill}, 7), b...))
		})
	}
	for first := 0; first < 256; first++ {
		for second := 0; second < 256; second++ {
			check([]byte{byte(first), byte(second)})
		}
	}
}

// P1.2
func TestAll(t *testing.T) {
	if l, e := leb.All([]byte{172, 2, 0, 127, 128, 1, 0}); !slices.Equal(l, []uint64{300, 0, 127, 128, 0}) || e != api.OK {
		t.Error(l, e)
	}
	for _, b := range [][]byte{nil, {}} {
		if l, e := leb.All(b); len(l) != 0 || e != api.OK {
			t.Error("no bytes are no numbers", l, e)
		}
	}
}

// P1.2
func TestAllBytesLeft(t *testing.T) {
	for _, s := range sizes() {
		for cut := 1; cut < s.size; cut++ {
			b := append([]byte{7, 8}, s.high[:cut]...)
			if l, e := leb.All(b); len(l) != 0 || e != api.ErrPack {
				t.Error(b, l, e)
			}
		}
	}
}

// P2
func TestReadersChangeNothing(t *testing.T) {
	room := []byte{172, 2, 5, 128}
	l, e := leb.All(room[:3])
	if e != api.OK || len(l) != 2 {
		t.Fatal(l, e)
	}
	leb.Of(room[:3])
	l[0], l[1] = 1, 1
	if !bytes.Equal(room, []byte{172, 2, 5, 128}) {
		t.Error(room)
	}
	if again, _ := leb.All(room[:3]); !slices.Equal(again, []uint64{300, 5}) {
		t.Error("answers share memory", again)
	}
}

// P1.3
func TestZigAndZag(t *testing.T) {
	for n, u := range map[int64]uint64{0: 0, -1: 1, 1: 2, -2: 3, 2: 4, -150: 299, 150: 300, math.MaxInt64: math.MaxUint64 - 1, math.MinInt64: math.MaxUint64} {
		if leb.Zig(n) != u {
			t.Error("Zig", n, leb.Zig(n))
		}
		if leb.Zag(u) != n {
			t.Error("Zag", u, leb.Zag(u))
		}
	}
}

// P1.3
func TestZigEdges(t *testing.T) {
	for _, u := range edges() {
		n := int64(u)
		want := new(big.Int).Mul(big.NewInt(n), big.NewInt(2))
		if n < 0 {
			want.Neg(want).Sub(want, big.NewInt(1))
		}
		if leb.Zig(n) != want.Uint64() || leb.Zag(leb.Zig(n)) != n {
			t.Error("Zig", n, leb.Zig(n), leb.Zag(leb.Zig(n)))
		}
		if leb.Zig(leb.Zag(u)) != u {
			t.Error("Zag", u, leb.Zag(u))
		}
	}
}

func oneWay(t *testing.T, b []byte) {
	t.Helper()
	l, e := leb.All(b)
	if e == api.OK && !bytes.Equal(leb.Put(nil, l...), b) {
		t.Error(b, l)
	}
}

// P1.4
func TestInOneWayOnly(t *testing.T) {
	texts(6, func(b []byte) { oneWay(t, b) })
	for _, fill := range []byte{128, 255} {
		texts(4, func(b []byte) {
			oneWay(t, append(bytes.Repeat([]byte{fill}, 8), b...))
		})
	}
	good := 0
	texts(3, func(b []byte) {
		if _, e := leb.All(b); e == api.OK {
			good++
		}
	})
	// Of the seven bytes four are numbers alone; each of the other three needs a last one of 1, 2 or 127 behind it: 1, 4, 16+9, 64+36+36+27 of 0 to 3 bytes.
	if good != 1+4+25+163 {
		t.Error("numbers are refused or taken wrongly", good)
	}
}

// P1.5
func TestThereAndBack(t *testing.T) {
	l := edges()
	for i := range l {
		for _, part := range [][]uint64{l[:i], l[i:]} {
			got, e := leb.All(leb.Put(nil, part...))
			if e != api.OK || !slices.Equal(got, part) {
				t.Fatal(part, got, e)
			}
		}
	}
	for _, a := range sizes() {
		for _, b := range sizes() {
			pair := []uint64{a.greatest, b.least, b.greatest, a.least}
			if got, e := leb.All(leb.Put([]byte{}, pair...)); e != api.OK || !slices.Equal(got, pair) {
				t.Error(pair, got, e)
			}
		}
	}
}

// P1 and P1.4, at any bytes.
func FuzzAll(f *testing.F) {
	f.Add([]byte{172, 2})
	f.Add([]byte{128, 0})
	f.Add([]byte{255, 255, 255, 255, 255, 255, 255, 255, 255, 1})
	f.Fuzz(func(t *testing.T, b []byte) {
		n, size, ok := meant(b)
		m, got, e := leb.Of(b)
		if m != n || got != size || ok != (e == api.OK) {
			t.Error(b, m, got, e)
		}
		oneWay(t, b)
	})
}
