package object_test

import (
	"bytes"
	"encoding/binary"
	"math/rand"
	"slices"
	"strings"
	"testing"

	"apograph/api"
	"apograph/object"
)

func nums(b []byte, l ...uint64) []byte {
	for _, n := range l {
		b = binary.AppendUvarint(b, n)
	}
	return b
}

// laid is what a record of a commit is, whether it is right or not, its numbers made by the library.
func laid(c api.Commit) []byte {
	b := nums(nil, c.Id, uint64(len(c.Parents)))
	b = nums(b, c.Parents...)
	b = nums(b, c.Gen, c.Root, uint64(len(c.Text)))
	return append(b, c.Text...)
}

// parsed reads a record by the library, and takes it only where it is laid so and the commit is right.
func parsed(b []byte) (api.Commit, bool) {
	rest, whole := b, true
	num := func() uint64 {
		n, size := binary.Uvarint(rest)
		if size <= 0 {
			whole = false
			return 0
		}
		rest = rest[size:]
		return n
	}
	var c api.Commit
	c.Id = num()
	for many := num(); many > 0 && whole; many-- {
		c.Parents = append(c.Parents, num())
	}
	c.Gen = num()
	c.Root = num()
	size := num()
	if !whole || size != uint64(len(rest)) {
		return api.Commit{}, false
	}
	c.Text = string(rest)
	if meant(c) != api.OK || !bytes.Equal(laid(c), b) {
		return api.Commit{}, false
	}
	return c, true
}

// reads asks for the commit that b is, and for b of it.
func reads(t *testing.T, b []byte, want api.Commit) {
	t.Helper()
	c, e := object.Of(b)
	if e != api.OK || !like(c, want) || !object.Same(c, want) {
		t.Fatalf("Of %q: %v, %d, not %v", b, c, e, want)
	}
	if again, e := object.Put(c); e != api.OK || !bytes.Equal(again, b) {
		t.Fatalf("Put of Of %q: %q, %d", b, again, e)
	}
}

// readsNot asks for an error, and for nothing else.
func readsNot(t *testing.T, b []byte) {
	t.Helper()
	if c, e := object.Of(b); e != api.ErrPack || !like(c, api.Commit{}) {
		t.Fatalf("Of %q: %v, %d", b, c, e)
	}
}

// as asks for what the library reads of any bytes.
func as(t *testing.T, b []byte) bool {
	t.Helper()
	c, is := parsed(b)
	if is {
		reads(t, b, c)
	} else {
		readsNot(t, b)
	}
	return is
}

// puts asks for these bytes of a commit, and for the commit of them.
func puts(t *testing.T, c api.Commit, want []byte) {
	t.Helper()
	was := clone(c)
	if b, e := object.Put(c); e != api.OK || !bytes.Equal(b, want) {
		t.Fatalf("Put of %v: %q, %d, not %q", c, b, e, want)
	}
	if !like(c, was) {
		t.Fatalf("changed: %v, not %v", c, was)
	}
	reads(t, want, c)
}

// putsNot asks for an error and no bytes, and that bytes laid so are no commit.
func putsNot(t *testing.T, c api.Commit, want api.Errno) {
	t.Helper()
	if b, e := object.Put(c); e != want || len(b) != 0 {
		t.Fatalf("Put of %v: %q, %d, not %d", c, b, e, want)
	}
	readsNot(t, laid(c))
}

// commits are right ones, of all kinds.
func commits() []api.Commit {
	long := strings.Repeat("t", 60)
	return []api.Commit{
		root(), child(), merged(),
		{Id: 1, Gen: 1},
		{Id: 127, Gen: 1, Root: 128, Text: long},
		{Id: 128, Parents: []uint64{127}, Gen: 127, Root: 127, Text: long[1:]},
		{Id: 300, Parents: []uint64{299, 128}, Gen: 128, Root: 0, Text: " "},
		{Id: 1 << 32, Parents: []uint64{1, 1<<32 - 1}, Gen: 2, Root: 1 << 32, Text: "~"},
		{Id: top, Parents: []uint64{top - 1, top - 2}, Gen: top, Root: top, Text: long},
		{Id: top, Gen: 1, Root: top},
	}
}

func TestP14_2Example(t *testing.T) {
	for _, c := range []api.Commit{{}, {Gen: 1}, {Gen: 1, Root: 9, Text: "x"}, {Parents: []uint64{1}, Gen: 2}} {
		if b, e := object.Put(c); e != api.ErrCommit || len(b) != 0 {
			t.Error(c, b, e)
		}
	}
}

func TestP14_2PutBytes(t *testing.T) {
	most := "\xff\xff\xff\xff\xff\xff\xff\xff\xff\x01"
	for _, x := range []struct {
		c    api.Commit
		want string
	}{
		{api.Commit{Id: 1, Gen: 1}, "\x01\x00\x01\x00\x00"},
		{api.Commit{Id: 1, Parents: []uint64{}, Gen: 1}, "\x01\x00\x01\x00\x00"},
		{root(), "\x01\x00\x01\x07\x05first"},
		{child(), "\x05\x01\x03\x02\x08\x06second"},
		{merged(), "\x05\x02\x03\x04\x03\x09\x05merge"},
		{api.Commit{Id: 5, Parents: []uint64{4, 3}, Gen: 3, Root: 9}, "\x05\x02\x04\x03\x03\x09\x00"},
		{api.Commit{Id: 300, Parents: []uint64{128}, Gen: 128, Root: 300, Text: "~ "}, "\xac\x02\x01\x80\x01\x80\x01\xac\x02\x02~ "},
		{api.Commit{Id: top, Gen: 1, Root: top}, most + "\x00\x01" + most + "\x00"},
		{api.Commit{Id: top, Parents: []uint64{1}, Gen: top}, most + "\x01\x01" + most + "\x00\x00"},
		{api.Commit{Id: 1, Gen: 1, Text: strings.Repeat("x", 60)}, "\x01\x00\x01\x00\x3c" + strings.Repeat("x", 60)},
	} {
		puts(t, x.c, []byte(x.want))
	}
	for _, c := range commits() {
		puts(t, c, laid(c))
	}
}

// P14.2: each of Right's errors, and bytes that are well formed, but of such a commit.
func TestP14_2PutWrong(t *testing.T) {
	for _, x := range []struct {
		change func(*api.Commit)
		want   api.Errno
	}{
		{func(c *api.Commit) { c.Id = 0 }, api.ErrCommit},
		{func(c *api.Commit) { c.Id = 3 }, api.ErrCommit},
		{func(c *api.Commit) { c.Id = 4 }, api.ErrCommit},
		{func(c *api.Commit) { c.Parents[0] = 0 }, api.ErrCommit},
		{func(c *api.Commit) { c.Parents[1] = 0 }, api.ErrCommit},
		{func(c *api.Commit) { c.Parents[0] = 5 }, api.ErrCommit},
		{func(c *api.Commit) { c.Parents[1] = 5 }, api.ErrCommit},
		{func(c *api.Commit) { c.Parents[0] = 6 }, api.ErrCommit},
		{func(c *api.Commit) { c.Parents[1] = top }, api.ErrCommit},
		{func(c *api.Commit) { c.Parents[1] = 3 }, api.ErrCommit},
		{func(c *api.Commit) { c.Parents = append(c.Parents, 2) }, api.ErrCommit},
		{func(c *api.Commit) { c.Parents = append(c.Parents, 2, 1) }, api.ErrCommit},
		{func(c *api.Commit) { c.Parents = nil }, api.ErrCommit},
		{func(c *api.Commit) { c.Gen = 0 }, api.ErrCommit},
		{func(c *api.Commit) { c.Gen = 1 }, api.ErrCommit},
		{func(c *api.Commit) { c.Gen, c.Text = 1, "\n" }, api.ErrCommit},
		{func(c *api.Commit) { c.Text = "\n" }, api.ErrText},
		{func(c *api.Commit) { c.Text = "a\x7f" }, api.ErrText},
		{func(c *api.Commit) { c.Text = "é" }, api.ErrText},
		{func(c *api.Commit) { c.Text = strings.Repeat("x", 61) }, api.ErrText},
		{func(c *api.Commit) { c.Text = strings.Repeat("x", 1<<20) }, api.ErrText},
	} {
		c := merged()
		x.change(&c)
		putsNot(t, c, x.want)
	}
	none := root()
	for _, gen := range []uint64{0, 2, top} {
		none.Gen = gen
		putsNot(t, none, api.ErrCommit)
	}
}

// P14.2, P14.3 of all commits of few numbers and texts: bytes where they are right, else the error.
func TestP14_2Every(t *testing.T) {
	every(func(c api.Commit) {
		if e := meant(c); e == api.OK {
			puts(t, c, laid(c))
		} else {
			putsNot(t, c, e)
		}
	})
}

// P14.2: nothing, a beginning, and bytes behind.
func TestP14_2Ends(t *testing.T) {
	readsNot(t, nil)
	readsNot(t, []byte{})
	for _, c := range commits() {
		b := laid(c)
		for size := range b {
			readsNot(t, b[:size])
			readsNot(t, b[:size:size])
		}
		for x := range 256 {
			readsNot(t, append(slices.Clone(b), byte(x)))
		}
		readsNot(t, append(slices.Clone(b), b...))
	}
}

// P14.2: with any byte changed it is another commit, or none.
func TestP14_2Changed(t *testing.T) {
	taken, refused := 0, 0
	for _, c := range commits() {
		b := laid(c)
		for at := range b {
			for x := range 256 {
				other := slices.Clone(b)
				other[at] = byte(x)
				if as(t, other) {
					taken++
				} else {
					refused++
				}
			}
		}
	}
	if taken < 1000 || refused < 1000 {
		t.Error("too few", taken, refused)
	}
}

// P14.2: counts of Parents that are too great or too small, with so many numbers and with others.
func TestP14_2Count(t *testing.T) {
	for n := range 6 {
		for _, many := range []uint64{0, 1, 2, 3, 4, 5, 127, 128, 1 << 16, 1 << 31, 1 << 32, 1<<32 + 2, 1 << 62, 1 << 63, 1<<63 + 1, top} {
			b := nums(nil, 9, many)
			for p := range n {
				b = nums(b, uint64(p)+1)
			}
			b = append(nums(b, 2, 30, 1), 'x')
			as(t, b)
			if many > 2 {
				readsNot(t, b)
			} else if many == uint64(n) && n > 0 {
				reads(t, b, api.Commit{Id: 9, Parents: []uint64{1, 2}[:n], Gen: 2, Root: 30, Text: "x"})
			}
		}
	}
	// As many as are told, but that is too many.
	for _, n := range []int{3, 127, 128, 1000} {
		c := with(5000)
		for p := range n {
			c.Parents = append(c.Parents, uint64(p)+1)
		}
		c.Gen = 2
		readsNot(t, laid(c))
	}
}

// P14.2: each number of a record, written longer than it must be or with more bits than there are.
func TestP14_2LongNumbers(t *testing.T) {
	parts := [][]byte{{5}, {2}, {3}, {4}, {3}, {9}, {1}, []byte("x")}
	reads(t, bytes.Join(parts, nil), api.Commit{Id: 5, Parents: []uint64{3, 4}, Gen: 3, Root: 9, Text: "x"})
	for at := range len(parts) - 1 {
		for more := 1; more < 12; more++ {
			long := bytes.Repeat([]byte{128}, more)
			long[0] |= parts[at][0]
			other := slices.Clone(parts)
			other[at] = append(long, 0)
			readsNot(t, bytes.Join(other, nil))
		}
		for _, wide := range []string{"\xff\xff\xff\xff\xff\xff\xff\xff\xff\x02", "\xff\xff\xff\xff\xff\xff\xff\xff\xff\x7f", "\x85\x80\x80\x80\x80\x80\x80\x80\x80\x02", "\x80\x80\x80\x80\x80\x80\x80\x80\x80\x80\x01"} {
			other := slices.Clone(parts)
			other[at] = []byte(wide)
			readsNot(t, bytes.Join(other, nil))
		}
	}
}

// P14.2: texts of all sizes and bytes, with bytes enough and without them.
func TestP14_2Texts(t *testing.T) {
	for _, size := range []int{0, 1, 59, 60, 61, 62, 127, 128, 1000, 131072, 131073} {
		c := merged()
		c.Text = strings.Repeat("s", size)
		b := laid(c)
		if as(t, b) != (size <= 60) {
			t.Error(size)
		}
		readsNot(t, b[:len(b)-1])
		readsNot(t, append(slices.Clone(b), 's'))
	}
	for x := range 256 {
		for at := range 3 {
			b := laid(merged())
			b[len(b)-5+at*2] = byte(x)
			if as(t, b) != (32 <= x && x <= 126) {
				t.Error(x, at)
			}
		}
	}
	for _, size := range []uint64{6, 60, 61, 1 << 31, 1 << 32, 1<<32 + 5, 1 << 63, 1<<63 + 5, top} {
		readsNot(t, append(nums(nil, 1, 0, 1, 9, size), "merge"...))
	}
}

// P14.2, P14.3 of commits by chance, mostly right ones, with sizes of numbers of all kinds.
func TestP14_3Chance(t *testing.T) {
	r := rand.New(rand.NewSource(14))
	number := func() uint64 { return r.Uint64() >> r.Intn(64) }
	fair := 0
	for range 100_000 {
		c := api.Commit{Id: number(), Gen: number(), Root: number()}
		for range r.Intn(3) {
			c.Parents = append(c.Parents, r.Uint64()%max(c.Id, 1))
		}
		if len(c.Parents) == 0 && r.Intn(4) > 0 {
			c.Gen = 1
		}
		text := make([]byte, r.Intn(61))
		for i := range text {
			text[i] = byte(32 + r.Intn(95))
		}
		c.Text = string(text)
		if e := meant(c); e == api.OK {
			puts(t, c, laid(c))
			fair++
		} else {
			putsNot(t, c, e)
		}
	}
	if fair < 10_000 {
		t.Error("too few", fair)
	}
}

// P14.2, P14.3 of bytes by chance, some of them nearly records: what is taken is, by Put, these bytes again.
func TestP14_3Bytes(t *testing.T) {
	r := rand.New(rand.NewSource(3))
	taken, refused := 0, 0
	for range 300_000 {
		many := r.Intn(4)
		b := []byte{byte(r.Intn(8)), byte(many)}
		for range many + 2 {
			b = append(b, byte(r.Intn(8)))
		}
		size := r.Intn(4)
		b = append(b, byte(size))
		for range size {
			b = append(b, byte(28+r.Intn(102)))
		}
		if r.Intn(3) == 0 {
			b[r.Intn(len(b))] = byte(r.Intn(256))
		}
		if as(t, b) {
			taken++
		} else {
			refused++
		}
	}
	if taken < 10_000 || refused < 10_000 {
		t.Error("too few", taken, refused)
	}
}

// P14.3: no two bytes are the same commit, of all short bytes of few kinds.
func TestP14_3OneWay(t *testing.T) {
	var grow func([]byte)
	grow = func(b []byte) {
		as(t, b)
		if len(b) == 7 {
			return
		}
		for _, c := range []byte{0, 1, 2, 3, 65, 129} {
			grow(append(slices.Clone(b), c))
		}
	}
	grow(nil)
}

// P2: what was handed in or out may be changed without a change elsewhere.
func TestP14_2Memory(t *testing.T) {
	for _, c := range commits() {
		mine := c
		mine.Parents = append(slices.Clone(c.Parents), 99)[:len(c.Parents)]
		want := laid(c)
		first, _ := object.Put(mine)
		second, _ := object.Put(mine)
		clear(first[:cap(first)])
		if !bytes.Equal(second, want) || !like(mine, c) || mine.Parents[:len(c.Parents)+1][len(c.Parents)] != 99 {
			t.Fatal("Put shares memory, or changed its commit")
		}
		clear(mine.Parents)
		if !bytes.Equal(second, want) {
			t.Fatal("Put shares its argument's memory")
		}
		b := append(slices.Clone(want), "behind"...)[:len(want)]
		one, _ := object.Of(b)
		two, _ := object.Of(b)
		if !bytes.Equal(b[:len(b)+6], append(slices.Clone(want), "behind"...)) {
			t.Fatal("Of changed its bytes")
		}
		clear(b)
		clear(one.Parents[:cap(one.Parents)])
		if !like(two, c) {
			t.Fatal("Of shares memory")
		}
	}
}

func FuzzOf(f *testing.F) {
	for _, c := range commits() {
		f.Add(laid(c))
	}
	f.Fuzz(func(t *testing.T, b []byte) { as(t, b) })
}

func FuzzPut(f *testing.F) {
	f.Add(uint64(5), uint64(3), uint64(4), uint8(2), uint64(3), uint64(9), "merge")
	f.Add(uint64(1), uint64(0), uint64(0), uint8(0), uint64(1), uint64(0), "")
	f.Fuzz(func(t *testing.T, id, one, two uint64, many uint8, gen, root uint64, text string) {
		c := api.Commit{Id: id, Parents: []uint64{one, two, 1}[:many%4], Gen: gen, Root: root, Text: text}
		e := meant(c)
		right(t, c, e)
		if e == api.OK {
			puts(t, c, laid(c))
		} else {
			putsNot(t, c, e)
		}
	})
}
