package node_test

import (
	"bytes"
	"encoding/binary"
	"math"
	"math/rand"
	"reflect"
	"slices"
	"strings"
	"testing"

	"apograph/api"
	"apograph/node"
)

// laid is what a record of a node is, whether it is right or not, its numbers made by the library.
func laid(n api.Node) []byte {
	b := binary.AppendUvarint(nil, uint64(n.Level))
	b = binary.AppendUvarint(b, uint64(len(n.Entries)+len(n.Kids)))
	text := func(s string) {
		b = binary.AppendUvarint(b, uint64(len(s)))
		b = append(b, s...)
	}
	for _, x := range n.Entries {
		text(x.Key)
		text(x.Val)
	}
	for _, k := range n.Kids {
		text(k.Last)
		b = binary.AppendUvarint(b, k.Id)
	}
	return b
}

// parsed reads a record by the library, and takes it only where it is laid so and the node is right.
func parsed(b []byte) (api.Node, bool) {
	rest, whole := b, true
	num := func() uint64 {
		n, size := binary.Uvarint(rest)
		if size <= 0 {
			whole = false
			return 0
		}
		rest = rest[size:]
		return n
	}
	text := func() string {
		size := num()
		if size > uint64(len(rest)) {
			whole = false
			return ""
		}
		s := string(rest[:size])
		rest = rest[size:]
		return s
	}
	level := num()
	if level > 20 {
		return api.Node{}, false
	}
	n := api.Node{Level: int(level)}
	for many := num(); many > 0 && whole; many-- {
		if level == 0 {
			key := text()
			n.Entries = append(n.Entries, api.Entry{Key: key, Val: text()})
		} else {
			last := text()
			n.Kids = append(n.Kids, api.Kid{Last: last, Id: num()})
		}
	}
	if !whole || len(b) > 131072 || meant(n) != api.OK || !bytes.Equal(laid(n), b) {
		return api.Node{}, false
	}
	return n, true
}

// reads asks for the node that b is, and for b of it.
func reads(t *testing.T, b []byte, want api.Node) {
	t.Helper()
	n, e := node.Of(b)
	if e != api.OK || !reflect.DeepEqual(n, want) {
		t.Fatalf("Of %q: %#v, %d, not %#v", b, n, e, want)
	}
	if again, e := node.Put(n); e != api.OK || !bytes.Equal(again, b) {
		t.Fatalf("Put of Of %q: %q, %d", b, again, e)
	}
}

// readsNot asks for an error, and for nothing else.
func readsNot(t *testing.T, b []byte) {
	t.Helper()
	if n, e := node.Of(b); e != api.ErrNode || !reflect.DeepEqual(n, api.Node{}) {
		t.Fatalf("Of %q: %#v, %d", b, n, e)
	}
}

// as asks for what the library reads of any bytes.
func as(t *testing.T, b []byte) {
	t.Helper()
	if n, is := parsed(b); is {
		reads(t, b, n)
	} else {
		readsNot(t, b)
	}
}

// some are nodes that are right, of all kinds.
func some() []api.Node {
	l := []api.Node{
		{Entries: []api.Entry{{Key: "b"}}},
		{Entries: []api.Entry{{Key: "\x00", Val: "\x00"}}},
		{Entries: []api.Entry{{Key: strings.Repeat("k", 40), Val: strings.Repeat("v", 200)}}},
		{Level: 1, Kids: []api.Kid{{Last: "b", Id: 1}}},
		{Level: 20, Kids: []api.Kid{{Last: strings.Repeat("\xff", 40), Id: math.MaxUint64}}},
		{Level: 19, Kids: []api.Kid{{Last: "b", Id: 127}}},
		{Level: 19, Kids: []api.Kid{{Last: "b", Id: 128}}},
		of(20, pick(20, 5, true)...),
		of(20, pick(20, 200, false)...),
	}
	// As many parts as can be in so few bytes: keys of one byte, nothing but a byte behind them.
	small, leaf := api.Node{Level: 20}, api.Node{}
	for c := range 256 {
		k := string([]byte{byte(c)})
		small.Kids = append(small.Kids, api.Kid{Last: k, Id: 1})
		if !ends(0, k) {
			leaf.Entries = append(leaf.Entries, api.Entry{Key: k})
		}
	}
	l = append(l, small, leaf)
	for level := range 21 {
		keys := pick(level, 3, false)
		l = append(l, of(level, keys...), of(level, append(keys[:2:2], pick(level, 100, true)[99])...))
	}
	return l
}

func TestP9_3PutBytes(t *testing.T) {
	for _, c := range []struct {
		n    api.Node
		want string
	}{
		{api.Node{Entries: []api.Entry{{Key: "b"}}}, "\x00\x01\x01b\x00"},
		{api.Node{Entries: []api.Entry{{Key: "b", Val: "xyz"}}}, "\x00\x01\x01b\x03xyz"},
		{api.Node{Entries: []api.Entry{{Key: "b", Val: "1"}, {Key: "bb", Val: ""}}}, "\x00\x02\x01b\x011\x02bb\x00"},
		{api.Node{Entries: []api.Entry{{Key: "b", Val: strings.Repeat("v", 200)}}}, "\x00\x01\x01b\xc8\x01" + strings.Repeat("v", 200)},
		{api.Node{Level: 1, Kids: []api.Kid{{Last: "b", Id: 1}}}, "\x01\x01\x01b\x01"},
		{api.Node{Level: 20, Kids: []api.Kid{{Last: "a", Id: 300}, {Last: "ab", Id: math.MaxUint64}}}, "\x14\x02\x01a\xac\x02\x02ab\xff\xff\xff\xff\xff\xff\xff\xff\xff\x01"},
	} {
		if b, e := node.Put(c.n); e != api.OK || string(b) != c.want {
			t.Errorf("Put of %#v: %q, %d", c.n, b, e)
		}
		reads(t, []byte(c.want), c.n)
	}
}

func TestP9_3Some(t *testing.T) {
	for _, n := range some() {
		b, e := node.Put(n)
		if e != api.OK || !bytes.Equal(b, laid(n)) {
			t.Fatalf("Put of %#v: %q, %d", n, b, e)
		}
		reads(t, b, n)
	}
}

// P9.3: Right's error, and no bytes; and of what such a node would be no node.
func TestP9_3NotRight(t *testing.T) {
	long := strings.Repeat("x", 201)
	for _, c := range []struct {
		n    api.Node
		want api.Errno
	}{
		{api.Node{}, api.ErrNode},
		{api.Node{Level: 1}, api.ErrNode},
		{api.Node{Level: 20}, api.ErrNode},
		{of(0, "c", "b"), api.ErrNode},
		{of(0, "b", "b"), api.ErrNode},
		{of(0, pick(0, 2, true)...), api.ErrNode},
		{of(3, "c", "b"), api.ErrNode},
		{of(3, "b", "b"), api.ErrNode},
		{of(20, "b", "b"), api.ErrNode},
		{of(3, pick(3, 2, true)...), api.ErrNode},
		{of(21, "b"), api.ErrNode},
		{of(100, "b"), api.ErrNode},
		{of(256, "b"), api.ErrNode},
		{of(-1, "b"), api.ErrNode},
		{of(math.MinInt, "b"), api.ErrNode},
		{of(math.MaxInt, "b"), api.ErrNode},
		{api.Node{Level: 1, Kids: []api.Kid{{Last: "b"}}}, api.ErrNode},
		{of(0, ""), api.ErrKey},
		{of(0, long[:41]), api.ErrKey},
		{of(0, "", "b"), api.ErrKey},
		{of(5, ""), api.ErrKey},
		{of(5, long[:41]), api.ErrKey},
		{of(5, "", "b"), api.ErrKey},
		{api.Node{Entries: []api.Entry{{Key: "b", Val: long}}}, api.ErrValue},
	} {
		if b, e := node.Put(c.n); len(b) != 0 || e != c.want {
			t.Errorf("Put of %#v: %q, %d", c.n, b, e)
		}
		readsNot(t, laid(c.n))
	}
}

// sized is a node of level 0 whose record has so many bytes (at least 131,000, so that its count takes two).
func sized(t *testing.T, size int) api.Node {
	t.Helper()
	left := size - 3
	n := api.Node{}
	for _, k := range pick(0, 2000, false) {
		val := min(left-10, 127)
		if rest := left - 10 - val; 0 < rest && rest < 10 {
			val -= 10
		}
		n.Entries = append(n.Entries, api.Entry{Key: k, Val: strings.Repeat("v", val)})
		left -= 10 + val
		if left == 0 {
			break
		}
	}
	if got := len(laid(n)); got != size {
		t.Fatalf("%d bytes, not %d", got, size)
	}
	return n
}

// sizedKids is likewise of level 20, with so many kids that the count takes two bytes.
func sizedKids(t *testing.T, size int) api.Node {
	t.Helper()
	left := size - 3
	n := api.Node{Level: 20}
	for _, k := range pick(20, 12000, true) {
		last := min(left-2, 30)
		if rest := left - 2 - last; 0 < rest && rest < 10 {
			last -= 10
		}
		n.Kids = append(n.Kids, api.Kid{Last: k + strings.Repeat("k", last-8), Id: 1})
		left -= 2 + last
		if left == 0 {
			break
		}
	}
	if got := len(laid(n)); got != size {
		t.Fatalf("%d bytes, not %d", got, size)
	}
	return n
}

func TestP9_3Long(t *testing.T) {
	for size := 131072 - 12; size <= 131072+12; size++ {
		for _, n := range []api.Node{sized(t, size), sizedKids(t, size)} {
			if e := node.Right(n); e != api.OK {
				t.Fatal(size, e)
			}
			b, e := node.Put(n)
			if size > 131072 {
				if e != api.ErrLong || len(b) != 0 {
					t.Fatalf("Put of %d bytes: %d, %d", size, len(b), e)
				}
				readsNot(t, laid(n))
				continue
			}
			if e != api.OK || len(b) != size {
				t.Fatalf("Put of %d bytes: %d, %d", size, len(b), e)
			}
			reads(t, b, n)
		}
	}
	if _, e := node.Put(sized(t, 250_000)); e != api.ErrLong {
		t.Error(e)
	}
}

// P4: Right's error comes ahead of ErrLong.
func TestP9_3LongAndWrong(t *testing.T) {
	at := func(i int, x api.Entry) api.Errno {
		n := sized(t, 140_000)
		n.Entries[i] = x
		_, e := node.Put(n)
		return e
	}
	if e := at(5, api.Entry{Key: "0"}); e != api.ErrNode {
		t.Error(e)
	}
	if e := at(5, api.Entry{}); e != api.ErrKey {
		t.Error(e)
	}
	if e := at(5, api.Entry{Key: "0", Val: strings.Repeat("v", 201)}); e != api.ErrValue {
		t.Error(e)
	}
	n := sizedKids(t, 140_000)
	n.Kids[3].Id = 0
	if _, e := node.Put(n); e != api.ErrNode {
		t.Error(e)
	}
}

// P9.3: nothing, a beginning, and bytes behind.
func TestP9_3Ends(t *testing.T) {
	readsNot(t, nil)
	readsNot(t, []byte{})
	for _, n := range some() {
		b := laid(n)
		for size := range b {
			readsNot(t, b[:size])
			readsNot(t, b[:size:size])
		}
		for c := range 256 {
			readsNot(t, append(slices.Clone(b), byte(c)))
		}
		readsNot(t, append(slices.Clone(b), b...))
	}
}

// P9.3, P9.5: with any byte changed it is another node, or none.
func TestP9_3Changed(t *testing.T) {
	taken, refused := 0, 0
	for _, n := range some() {
		b := laid(n)
		for at := range b {
			for c := range 256 {
				if len(b) > 300 && c%64 > 1 {
					continue
				}
				other := slices.Clone(b)
				other[at] = byte(c)
				as(t, other)
				if _, is := parsed(other); is {
					taken++
				} else {
					refused++
				}
			}
		}
	}
	if taken < 1000 || refused < 1000 {
		t.Error("too few", taken, refused)
	}
}

// long is a number with a byte more than it must have, or with more.
func long(n uint64, more int) []byte {
	b := binary.AppendUvarint(nil, n)
	for range more {
		b[len(b)-1] |= 128
		b = append(b, 0)
	}
	return b
}

// P9.3: each number of a record, written longer than it must be.
func TestP9_3LongNumbers(t *testing.T) {
	leaf := [][]byte{{0}, {1}, {1}, []byte("b"), {2}, []byte("vv")}
	inner := [][]byte{{5}, {1}, {1}, []byte("b"), {9}}
	reads(t, bytes.Join(leaf, nil), api.Node{Entries: []api.Entry{{Key: "b", Val: "vv"}}})
	reads(t, bytes.Join(inner, nil), api.Node{Level: 5, Kids: []api.Kid{{Last: "b", Id: 9}}})
	for more := 1; more < 12; more++ {
		for _, at := range []int{0, 1, 2, 4} {
			for _, parts := range [][][]byte{leaf, inner} {
				other := slices.Clone(parts)
				other[at] = long(uint64(parts[at][0]), more)
				readsNot(t, bytes.Join(other, nil))
			}
		}
	}
	// The greatest Id, and one that isn't below 2^64.
	inner[4] = []byte("\xff\xff\xff\xff\xff\xff\xff\xff\xff\x01")
	reads(t, bytes.Join(inner, nil), api.Node{Level: 5, Kids: []api.Kid{{Last: "b", Id: math.MaxUint64}}})
	inner[4] = []byte("\x80\x80\x80\x80\x80\x80\x80\x80\x80\x02")
	readsNot(t, bytes.Join(inner, nil))
	inner[4] = []byte{0}
	readsNot(t, bytes.Join(inner, nil))
}

// P9.3: counts that are too great or too small, and levels that aren't.
func TestP9_3Numbers(t *testing.T) {
	for _, level := range []int{0, 1, 7, 19, 20} {
		n := of(level, pick(level, 3, false)...)
		parts := laid(n)[2:]
		for _, many := range []uint64{0, 1, 2, 3, 4, 5, 12, 13, 100, 127, 128, 43690, 131072, 131073, 1 << 31, 1 << 32, 1<<32 + 3, 1 << 63, 1<<63 + 3, math.MaxUint64} {
			b := binary.AppendUvarint([]byte{byte(level)}, many)
			b = append(b, parts...)
			if many == 3 {
				reads(t, b, n)
			} else {
				readsNot(t, b)
			}
		}
	}
	for _, level := range []uint64{21, 22, 100, 127, 128, 255, 256, 257, 276, 1 << 32, 1<<32 + 1, 1 << 63, 1<<63 + 1, math.MaxUint64} {
		for _, parts := range []string{"\x01\x01b\x01", "\x01\x01b\x00", "\x00", ""} {
			readsNot(t, append(binary.AppendUvarint(nil, level), parts...))
		}
	}
	for level := range 21 {
		readsNot(t, []byte{byte(level)})
		readsNot(t, []byte{byte(level), 0})
	}
}

// P9.3: texts of all sizes, with bytes enough and without them.
func TestP9_3TextSizes(t *testing.T) {
	for _, size := range []int{0, 1, 39, 40, 41, 42, 127, 128, 199, 200, 201, 202, 1000, 131000} {
		s := strings.Repeat("s", size)
		for _, n := range []api.Node{{Entries: []api.Entry{{Key: s, Val: "v"}}}, {Entries: []api.Entry{{Key: "k", Val: s}}}, of(1, s), of(20, s)} {
			b := laid(n)
			as(t, b)
			readsNot(t, b[:len(b)-1])
		}
	}
	for _, size := range []uint64{41, 1 << 31, 1 << 32, 1<<32 + 1, 1 << 63, 1<<63 + 1, math.MaxUint64} {
		b := binary.AppendUvarint([]byte{0, 1}, size)
		readsNot(t, append(b, "b\x00"...))
		b = binary.AppendUvarint([]byte{0, 1, 1, 'b'}, size)
		readsNot(t, append(b, 'b'))
		b = binary.AppendUvarint([]byte{1, 1}, size)
		readsNot(t, append(b, "b\x01"...))
	}
}

// P9.3, P9.5: all texts of a few bytes that mean something, and longer ones by chance.
func TestP9_5Any(t *testing.T) {
	var grow func(b []byte, most int)
	grow = func(b []byte, most int) {
		as(t, b)
		if most == 0 {
			return
		}
		for _, c := range []byte{0, 1, 2, 20, 21, 'b', 128} {
			grow(append(slices.Clone(b), c), most-1)
		}
	}
	grow(nil, 6)
	r := rand.New(rand.NewSource(5))
	taken := 0
	for range 100_000 {
		b := []byte{byte(r.Intn(22)), byte(r.Intn(4))}
		for range r.Intn(16) {
			b = append(b, byte(r.Intn(r.Intn(256)+1)))
		}
		as(t, b)
		n := chance(r)
		as(t, laid(n))
		if meant(n) == api.OK {
			taken++
		}
	}
	if taken < 1000 {
		t.Error("too few", taken)
	}
}

// P2: what was handed in or out may be changed without a change elsewhere.
func TestP9_3Memory(t *testing.T) {
	for _, n := range some() {
		want := laid(n)
		first, _ := node.Put(n)
		second, _ := node.Put(n)
		clear(first[:cap(first)])
		if !bytes.Equal(second, want) || !bytes.Equal(laid(n), want) {
			t.Fatal("Put shares memory")
		}
		b := append(slices.Clone(want), "behind"...)[:len(want)]
		one, _ := node.Of(b)
		two, _ := node.Of(b)
		if !bytes.Equal(b[:len(b)+6], append(slices.Clone(want), "behind"...)) {
			t.Fatal("Of changed its bytes")
		}
		clear(b)
		clear(one.Entries[:cap(one.Entries)])
		clear(one.Kids[:cap(one.Kids)])
		if !bytes.Equal(laid(two), want) {
			t.Fatal("Of shares memory")
		}
	}
}

func FuzzOf(f *testing.F) {
	for _, n := range some() {
		f.Add(laid(n))
	}
	f.Fuzz(func(t *testing.T, b []byte) { as(t, b) })
}
