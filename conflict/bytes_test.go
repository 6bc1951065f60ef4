package conflict_test

import (
	"bytes"
	"encoding/binary"
	"fmt"
	"math"
	"math/rand"
	"slices"
	"strings"
	"testing"

	"apograph/api"
	"apograph/conflict"
)

func text(b []byte, s string) []byte {
	return append(binary.AppendUvarint(b, uint64(len(s))), s...)
}

// laid is what a record of clashes is, whether they are right or not, its numbers made by the library.
func laid(l []api.Clash) []byte {
	b := binary.AppendUvarint(nil, uint64(len(l)))
	for _, c := range l {
		b = text(b, c.Key)
		for _, x := range sidesOf(&c) {
			flag := byte(0)
			if x.Has {
				flag = 1
			}
			b = text(append(b, flag), x.Val)
		}
	}
	return b
}

// parsed reads a record by the library, and takes it only where it is laid so and the clashes are right.
func parsed(b []byte) ([]api.Clash, bool) {
	rest, whole := b, true
	num := func() uint64 {
		n, size := binary.Uvarint(rest)
		if size <= 0 {
			whole = false
			return 0
		}
		rest = rest[size:]
		return n
	}
	read := func() string {
		size := num()
		if size > uint64(len(rest)) {
			whole = false
			return ""
		}
		s := string(rest[:size])
		rest = rest[size:]
		return s
	}
	var l []api.Clash
	for many := num(); many > 0 && whole; many-- {
		c := api.Clash{Key: read()}
		for _, x := range sidesOf(&c) {
			x.Has = num() == 1
			x.Val = read()
		}
		l = append(l, c)
	}
	if !whole || len(l) > 1000 || meant(l) != api.OK || !bytes.Equal(laid(l), b) {
		return nil, false
	}
	return l, true
}

// reads asks for the clashes that b is, and for b of them.
func reads(t *testing.T, b []byte, want []api.Clash) {
	t.Helper()
	l, e := conflict.Of(b)
	if e != api.OK || !slices.Equal(l, want) {
		t.Fatalf("Of %q: %v, %d, not %v", b, l, e, want)
	}
	if again, e := conflict.Put(l); e != api.OK || !bytes.Equal(again, b) {
		t.Fatalf("Put of Of %q: %q, %d", b, again, e)
	}
}

// readsNot asks for an error, and for nothing else.
func readsNot(t *testing.T, b []byte) {
	t.Helper()
	if l, e := conflict.Of(b); e != api.ErrPack || len(l) != 0 {
		t.Fatalf("Of %q: %v, %d", b, l, e)
	}
}

// as asks for what the library reads of any bytes.
func as(t *testing.T, b []byte) bool {
	t.Helper()
	l, is := parsed(b)
	if is {
		reads(t, b, l)
	} else {
		readsNot(t, b)
	}
	return is
}

// puts asks for these bytes of clashes, and for the clashes of them.
func puts(t *testing.T, l []api.Clash, want []byte) {
	t.Helper()
	was := slices.Clone(l)
	if b, e := conflict.Put(l); e != api.OK || !bytes.Equal(b, want) {
		t.Fatalf("Put of %v: %q, %d, not %q", l, b, e, want)
	}
	if !slices.Equal(l, was) {
		t.Fatalf("changed: %v, not %v", l, was)
	}
	reads(t, want, l)
}

// putsNot asks for an error and no bytes, and that bytes laid so are no clashes.
func putsNot(t *testing.T, l []api.Clash, want api.Errno) {
	t.Helper()
	if b, e := conflict.Put(l); e != want || len(b) != 0 {
		t.Fatalf("Put of %v: %q, %d, not %d", l, b, e, want)
	}
	readsNot(t, laid(l))
}

// lists are clashes that are right, of all kinds.
func lists() [][]api.Clash {
	key, val := strings.Repeat("k", 40), strings.Repeat("v", 200)
	return [][]api.Clash{
		nil,
		fair(1),
		fair(2),
		fair(6),
		of("\x00", "\x00\x00", "\x01", "a", "\xff"),
		{clash(key, "="+val, "="+val[1:], "="+val[:127]), clash(key[1:]+"l", "", "="+val[:128], "=")},
		{clash("k", "=\x00\xff\x80", "=\x00", "=\xff")},
	}
}

func TestP13_2PutBytes(t *testing.T) {
	long := strings.Repeat("v", 200)
	for _, x := range []struct {
		l    []api.Clash
		want string
	}{
		{nil, "\x00"},
		{[]api.Clash{}, "\x00"},
		{[]api.Clash{clash("a", "=1", "=2", "=3")}, "\x01\x01a\x01\x011\x01\x012\x01\x013"},
		{[]api.Clash{clash("ab", "", "=xyz", "=")}, "\x01\x02ab\x00\x00\x01\x03xyz\x01\x00"},
		{[]api.Clash{clash("a", "=1", "", "=3")}, "\x01\x01a\x01\x011\x00\x00\x01\x013"},
		{[]api.Clash{clash("a", "=1", "=2", "")}, "\x01\x01a\x01\x011\x01\x012\x00\x00"},
		{[]api.Clash{clash("a", "=1", "=2", "="+long)}, "\x01\x01a\x01\x011\x01\x012\x01\xc8\x01" + long},
		{[]api.Clash{clash("a", "=1", "=2", "=3"), clash("b", "", "=x", "=")}, "\x02\x01a\x01\x011\x01\x012\x01\x013\x01b\x00\x00\x01\x01x\x01\x00"},
	} {
		puts(t, x.l, []byte(x.want))
	}
	for _, l := range lists() {
		puts(t, l, laid(l))
	}
}

func TestP13_2PutMany(t *testing.T) {
	all := fair(1003)
	for _, n := range []int{0, 1, 2, 10, 127, 128, 400, 999, 1000} {
		puts(t, all[:n], laid(all[:n]))
	}
	for _, n := range []int{1001, 1002, 1003} {
		right(t, all[:n], api.OK)
		putsNot(t, all[:n], api.ErrConflict)
	}
	putsNot(t, fair(20_000), api.ErrConflict)
	// As long as they can be.
	val := strings.Repeat("v", 199)
	var l []api.Clash
	for i := range 1000 {
		l = append(l, clash(fmt.Sprintf("%040d", i), "="+val+"1", "="+val+"2", "="+val+"3"))
	}
	puts(t, l, laid(l))
}

// P13.2: each of Right's errors, at each place.
func TestP13_2PutWrong(t *testing.T) {
	long := strings.Repeat("v", 201)
	for _, x := range []struct {
		sides [3]string
		key   string
		want  api.Errno
	}{
		{[3]string{"=1", "=2", "=3"}, "", api.ErrKey},
		{[3]string{"=1", "=2", "=3"}, long[:41], api.ErrKey},
		{[3]string{"=" + long, "=2", "=3"}, "same", api.ErrValue},
		{[3]string{"=1", "=" + long, "=3"}, "same", api.ErrValue},
		{[3]string{"=1", "=2", "=" + long}, "same", api.ErrValue},
		{[3]string{"1", "=2", "=3"}, "same", api.ErrValue},
		{[3]string{"=1", "2", "=3"}, "same", api.ErrValue},
		{[3]string{"=1", "=2", "3"}, "same", api.ErrValue},
		{[3]string{"=1", "=2", "=2"}, "same", api.ErrConflict},
		{[3]string{"=1", "=1", "=2"}, "same", api.ErrConflict},
		{[3]string{"=1", "=2", "=1"}, "same", api.ErrConflict},
	} {
		for at := range 5 {
			l := fair(5)
			key := x.key
			if key == "same" {
				key = l[at].Key
			}
			l[at] = clash(key, x.sides[0], x.sides[1], x.sides[2])
			putsNot(t, l, x.want)
		}
	}
	putsNot(t, of("b", "a"), api.ErrConflict)
	putsNot(t, of("a", "a"), api.ErrConflict)
	putsNot(t, of("a", "c", "b", "d"), api.ErrConflict)
	putsNot(t, of("a", "b", "b", "d"), api.ErrConflict)
}

// P13.2, P4: Right's error comes ahead of that of too many.
func TestP13_2PutManyWrong(t *testing.T) {
	for _, at := range []int{0, 500, 999, 1000, 1004} {
		l := fair(1005)
		l[at].Key = ""
		putsNot(t, l, api.ErrKey)
		l = fair(1005)
		l[at].Ours = api.Side{Val: "x"}
		putsNot(t, l, api.ErrValue)
	}
}

// P13.2 of clashes by chance: bytes where they are right, else the error.
func TestP13_2Chance(t *testing.T) {
	r := rand.New(rand.NewSource(2))
	all, told := some("a", "b", "c", "d", ""), map[api.Errno]int{}
	for range 100_000 {
		var l []api.Clash
		for range r.Intn(4) {
			l = append(l, all[r.Intn(len(all))])
		}
		e := meant(l)
		told[e]++
		if e == api.OK {
			puts(t, l, laid(l))
		} else {
			putsNot(t, l, e)
		}
	}
	for _, e := range []api.Errno{api.OK, api.ErrKey, api.ErrValue, api.ErrConflict} {
		if told[e] < 1000 {
			t.Error("too few", e, told[e])
		}
	}
}

// P13.2: nothing, a beginning, and bytes behind.
func TestP13_2Ends(t *testing.T) {
	readsNot(t, nil)
	readsNot(t, []byte{})
	for _, l := range append(lists(), fair(200)) {
		b := laid(l)
		for size := range b {
			readsNot(t, b[:size])
			readsNot(t, b[:size:size])
		}
		for c := range 256 {
			readsNot(t, append(slices.Clone(b), byte(c)))
		}
		readsNot(t, append(slices.Clone(b), b...))
	}
}

// P13.2: with any byte changed it is other clashes, or none.
func TestP13_2Changed(t *testing.T) {
	taken, refused := 0, 0
	for _, l := range lists() {
		b := laid(l)
		for at := range b {
			for c := range 256 {
				other := slices.Clone(b)
				other[at] = byte(c)
				if as(t, other) {
					taken++
				} else {
					refused++
				}
			}
		}
	}
	if taken < 1000 || refused < 1000 {
		t.Error("too few", taken, refused)
	}
}

// P13.2: counts that are too great or too small.
func TestP13_2Count(t *testing.T) {
	for _, n := range []int{0, 1, 3, 127, 128, 1000, 1001} {
		parts := laid(fair(n))
		_, size := binary.Uvarint(parts)
		parts = parts[size:]
		for _, many := range []uint64{0, 1, 2, 3, 4, 5, 126, 127, 128, 129, 999, 1000, 1001, 1002, 1 << 16, 1 << 31, 1 << 32, 1<<32 + 3, 1 << 62, 1 << 63, 1<<63 + 3, math.MaxUint64} {
			b := append(binary.AppendUvarint(nil, many), parts...)
			if many == uint64(n) && n <= 1000 {
				reads(t, b, fair(n))
			} else {
				readsNot(t, b)
			}
		}
	}
}

// P13.2: each flag, as one that is none.
func TestP13_2Flag(t *testing.T) {
	for place := range 3 {
		for _, flag := range []string{"\x00", "\x01", "\x02", "\x03", "\x7f", "\x80\x00", "\x81\x00", "\x80\x01", "\x81\x01", "\xff\xff\xff\xff\xff\xff\xff\xff\xff\x01", "\x80\x80\x80\x80\x10", "\x81\x80\x80\x80\x10"} {
			b := "\x01\x01a"
			c := clash("a", "=1", "=2", "=3")
			for i := range 3 {
				if i != place {
					b += fmt.Sprintf("\x01\x01%d", i+1)
				} else {
					b += flag + "\x00"
				}
			}
			switch flag {
			case "\x00":
				*sidesOf(&c)[place] = none
				reads(t, []byte(b), []api.Clash{c})
			case "\x01":
				*sidesOf(&c)[place] = has("")
				reads(t, []byte(b), []api.Clash{c})
			default:
				readsNot(t, []byte(b))
			}
		}
	}
}

// P13.2: each number of a record, written longer than it must be.
func TestP13_2LongNumbers(t *testing.T) {
	parts := [][]byte{{1}, {1}, []byte("a"), {1}, {1}, []byte("1"), {1}, {1}, []byte("2"), {0}, {0}}
	reads(t, bytes.Join(parts, nil), []api.Clash{clash("a", "=1", "=2", "")})
	for at, p := range parts {
		if p[0] > 1 {
			continue
		}
		for more := 1; more < 12; more++ {
			long := bytes.Repeat([]byte{128}, more)
			long[0] |= p[0]
			other := slices.Clone(parts)
			other[at] = append(long, 0)
			readsNot(t, bytes.Join(other, nil))
		}
	}
}

// P13.2: texts of all sizes, with bytes enough and without them.
func TestP13_2TextSizes(t *testing.T) {
	for _, size := range []int{0, 1, 39, 40, 41, 42, 127, 128, 199, 200, 201, 202, 1000, 131072, 131073} {
		s := strings.Repeat("s", size)
		as(t, laid([]api.Clash{clash(s, "=1", "=2", "=3")}))
		for place := range 3 {
			c := clash("a", "=1", "=2", "=3")
			sidesOf(&c)[place].Val = s
			b := laid([]api.Clash{c})
			if as(t, b) != (size <= 200) {
				t.Error(size, place)
			}
			readsNot(t, b[:len(b)-1])
		}
	}
	for _, size := range []uint64{41, 201, 1 << 31, 1 << 32, 1<<32 + 1, 1 << 63, 1<<63 + 1, math.MaxUint64} {
		b := binary.AppendUvarint([]byte{1}, size)
		readsNot(t, append(b, "a\x01\x011\x01\x012\x01\x013"...))
		b = binary.AppendUvarint([]byte("\x01\x01a\x01"), size)
		readsNot(t, append(b, "1\x01\x012\x01\x013"...))
		b = binary.AppendUvarint([]byte("\x01\x01a\x01\x011\x01\x012\x01"), size)
		readsNot(t, append(b, "3"...))
	}
}

// P13.2: all texts of a few bytes, and longer ones by chance that are mostly well formed.
func TestP13_2Any(t *testing.T) {
	var grow func(b []byte, most int)
	grow = func(b []byte, most int) {
		as(t, b)
		if most == 0 {
			return
		}
		for _, c := range []byte{0, 1, 2, 128, 255} {
			grow(append(slices.Clone(b), c), most-1)
		}
	}
	grow(nil, 6)
	r := rand.New(rand.NewSource(3))
	taken := 0
	for range 200_000 {
		b := []byte{byte(r.Intn(3))}
		for range b[0] {
			b = append(b, 1, byte(r.Intn(3)))
			for range 3 {
				b = append(b, byte(r.Intn(2)))
				b = text(b, strings.Repeat("v", r.Intn(4)))
			}
		}
		if r.Intn(3) == 0 {
			b[r.Intn(len(b))] = byte(r.Intn(256))
		}
		if as(t, b) {
			taken++
		}
	}
	if taken < 1000 {
		t.Error("too few", taken)
	}
}

// P2: what was handed in or out may be changed without a change elsewhere.
func TestP13_2Memory(t *testing.T) {
	for _, l := range lists() {
		mine := append(slices.Clone(l), api.Clash{Key: "behind"})[:len(l)]
		want := laid(l)
		first, _ := conflict.Put(mine)
		second, _ := conflict.Put(mine)
		clear(first[:cap(first)])
		if !bytes.Equal(second, want) || !slices.Equal(mine, l) || mine[:len(l)+1][len(l)].Key != "behind" {
			t.Fatal("Put shares memory, or changed its list")
		}
		clear(mine)
		if !bytes.Equal(second, want) {
			t.Fatal("Put shares its argument's memory")
		}
		b := append(slices.Clone(want), "behind"...)[:len(want)]
		one, _ := conflict.Of(b)
		two, _ := conflict.Of(b)
		if !bytes.Equal(b[:len(b)+6], append(slices.Clone(want), "behind"...)) {
			t.Fatal("Of changed its bytes")
		}
		clear(b)
		clear(one[:cap(one)])
		if !slices.Equal(two, l) {
			t.Fatal("Of shares memory")
		}
	}
}

func FuzzOf(f *testing.F) {
	for _, l := range lists() {
		f.Add(laid(l))
	}
	f.Fuzz(func(t *testing.T, b []byte) { as(t, b) })
}
