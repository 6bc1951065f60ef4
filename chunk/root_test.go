package chunk_test

import (
	"bytes"
	"encoding/binary"
	"math"
	"slices"
	"testing"

	"apograph/api"
	"apograph/chunk"
	"apograph/dev"
	"apograph/pager"
	"apograph/super"
)

const top = math.MaxUint64

// nums are numbers as bytes, made by the library.
func nums(l ...uint64) []byte {
	var b []byte
	for _, n := range l {
		b = binary.AppendUvarint(b, n)
	}
	return b
}

// record is a root: of each chunk its number less the one ahead, its start and its size.
func record(next uint64, state string, l ...uint64) []byte {
	b := append(nums(next, uint64(len(state))), state...)
	return append(b, nums(append([]uint64{uint64(len(l) / 3)}, l...)...)...)
}

// laid is a device of 10 pages with texts in the pages 1, 2 to 4 and 5, and with this root, which stands from page 6 on.
func laid(t *testing.T, root []byte) *dev.Dev {
	t.Helper()
	d := dev.New(40)
	if e := pager.Format(d); e != api.OK {
		t.Fatalf("Format: %d", e)
	}
	p, _, _ := pager.Open(d)
	for _, b := range [][]byte{[]byte("a"), text(300, 1), []byte("c")} {
		if _, e := p.Put(b); e != api.OK {
			t.Fatalf("Put: %d", e)
		}
	}
	if e := p.Commit(root); e != api.OK || p.Root().Start != 6 {
		t.Fatalf("Commit: %d, %v", e, p.Root())
	}
	return d
}

// right is the root of what is laid.
func right() []byte {
	return record(9, "st", 2, 1, 1, 1, 2, 300, 5, 5, 1)
}

// whole asks for what is laid there.
func whole(t *testing.T, d *dev.Dev) *chunk.Store {
	t.Helper()
	s := opens(t, d)
	ids(t, s, 2, 3, 8)
	stands(t, s, 1, 1, 2, 3, 5, 1)
	gets(t, s, 2, []byte("a"))
	gets(t, s, 3, text(300, 1))
	gets(t, s, 8, []byte("c"))
	stated(t, s, []byte("st"))
	rooted(t, s, 6, 1)
	free(t, s, 3)
	nexts(t, s, 9)
	puts(t, s, []byte("c"), 8)
	finds(t, s, text(300, 1), 3)
	finds(t, s, []byte("b"), 0)
	return s
}

// sectors is all that a device has.
func sectors(t *testing.T, d *dev.Dev) []byte {
	t.Helper()
	var all []byte
	for at := range d.Size() {
		b, e := d.Read(at)
		if e != api.OK {
			t.Fatalf("Read of sector %d: %d", at, e)
		}
		all = append(all, b...)
	}
	return all
}

// empty asks for a Store without anything, with so many pages besides page 0.
func empty(t *testing.T, s *chunk.Store, pages int) {
	t.Helper()
	ids(t, s)
	stands(t, s)
	stated(t, s, nil)
	rooted(t, s, 0, 0)
	free(t, s, pages)
	getsNot(t, s, 1, api.ErrNone)
}

func TestP8_1OpenNew(t *testing.T) {
	for n := 8; n < 30; n++ {
		for _, fill := range []byte{0, 0xee} {
			d := dev.New(n)
			for at := range n {
				d.Write(at, bytes.Repeat([]byte{fill}, 32))
			}
			d.Flush()
			want := sectors(t, d)
			clear(want[:32])
			copy(want[32:], super.Put(api.Super{Epoch: 1}))
			s := opens(t, d)
			if !bytes.Equal(sectors(t, d), want) || d.Cached() != 0 {
				t.Fatalf("a device of %d sectors isn't as formatted", n)
			}
			empty(t, s, n/4-1)
			nexts(t, s, 1)
		}
	}
	_, s := fresh(t, 16384)
	empty(t, s, 16383)
}

func TestP8_1OpenNever(t *testing.T) {
	for n := 2; n < 8; n++ {
		opensNot(t, dev.New(n), api.ErrSpace)
	}
	for _, d := range []*dev.Dev{nil, {}, dev.New(-1), dev.New(0), dev.New(1)} {
		opensNot(t, d, api.ErrRange)
	}
	for _, n := range []int{1, 2, 8, 40} {
		d := dev.New(n)
		d.Arm(0)
		d.Flush()
		opensNot(t, d, api.ErrDev)
	}
	d := laid(t, right())
	d.Arm(0)
	d.Flush()
	opensNot(t, d, api.ErrDev)
	d.Crash(api.Fate{Torn: -1})
	whole(t, d)
	for at := range 2 {
		d.Fault(at, true)
		opensNot(t, d, api.ErrRead)
		d.Fault(at, false)
	}
	whole(t, d)
}

// A device that dies within the Format: whatever is kept of that, it is formatted the next time.
func TestP8_1OpenDies(t *testing.T) {
	for n := range 6 {
		d := dev.New(20)
		d.Arm(n)
		if n == 5 {
			empty(t, opens(t, d), 4)
			continue
		}
		opensNot(t, d, api.ErrDev)
		opensNot(t, d, api.ErrDev)
		for _, f := range fates(d.Cached()) {
			c := d.Copy()
			c.Crash(f)
			s := opens(t, c)
			empty(t, s, 4)
			nexts(t, s, 1)
		}
	}
}

func TestP8_1OpenRootless(t *testing.T) {
	d := dev.New(40)
	if e := pager.Format(d); e != api.OK {
		t.Fatalf("Format: %d", e)
	}
	if !bytes.Equal(sectors(t, opened(t, d)), sectors(t, d)) {
		t.Fatal("Open wrote, though the device was formatted")
	}
	s := opens(t, d)
	empty(t, s, 9)
	nexts(t, s, 1)
	small := dev.New(2)
	if e := super.Save(small, api.Super{Epoch: 1}); e != api.OK {
		t.Fatalf("Save: %d", e)
	}
	s = opens(t, small)
	empty(t, s, 0)
	putsNot(t, s, nil, api.ErrSpace)
	commits(t, s, nil, api.ErrSpace)
	empty(t, s, 0)
}

// opened is a copy of a device, opened and closed.
func opened(t *testing.T, d *dev.Dev) *dev.Dev {
	t.Helper()
	c := d.Copy()
	opens(t, c)
	if c.Cached() != d.Cached() {
		t.Fatal("Open left writes behind")
	}
	return c
}

func TestP8_1OpenTwice(t *testing.T) {
	d := laid(t, right())
	was := sectors(t, d)
	for range 2 {
		whole(t, opened(t, d))
	}
	a, b := opens(t, d), opens(t, d)
	if !bytes.Equal(sectors(t, d), was) {
		t.Fatal("Open wrote")
	}
	for _, s := range []*chunk.Store{a, b, a} {
		ids(t, s, 2, 3, 8)
		gets(t, s, 3, text(300, 1))
		keeps(t, s, 1, 2, 3)
		s.Abort()
	}
}

// What pager.Open tells as ErrSuper is formatted, whatever chunks there were; any other error isn't.
func TestP8_1OpenSuper(t *testing.T) {
	d := laid(t, right())
	d.Write(0, make([]byte, 32))
	d.Write(1, make([]byte, 32))
	empty(t, opens(t, d), 9)
	d = laid(t, right())
	size := uint32(len(right()))
	if e := super.Save(d, api.Super{Epoch: 9, Start: 6, Pages: 2, Size: size}); e != api.OK {
		t.Fatalf("Save: %d", e)
	}
	empty(t, opens(t, d), 9)
	for _, c := range []struct {
		s    api.Super
		want api.Errno
	}{
		{api.Super{Epoch: 9, Start: 7, Pages: 1, Size: size}, api.ErrSum},
		{api.Super{Epoch: 9, Start: 10, Pages: 1, Size: size}, api.ErrRange},
		{api.Super{Epoch: 9, Start: 6, Pages: 1, Size: most + 1}, api.ErrRange},
	} {
		d := laid(t, right())
		if e := super.Save(d, c.s); e != api.OK {
			t.Fatalf("Save: %d", e)
		}
		was := sectors(t, d)
		opensNot(t, d, c.want)
		if !bytes.Equal(sectors(t, d), was) {
			t.Fatalf("Open with %v wrote", c.s)
		}
	}
	d = laid(t, right())
	d.Fault(6*4+3, true)
	opensNot(t, d, api.ErrRead)
}

// What a Commit keeps is just the record that the chapter says.
func TestP8_1Record(t *testing.T) {
	d, s := fresh(t, 40)
	asks := func(want []byte) {
		t.Helper()
		if _, got, e := pager.Open(d); e != api.OK || !bytes.Equal(got, want) {
			t.Fatalf("the root: %d, %v, not %v", e, got, want)
		}
	}
	commits(t, s, nil, api.OK)
	asks(record(1, ""))
	asks([]byte{1, 0, 0})
	puts(t, s, []byte("a"), 1)
	puts(t, s, text(300, 1), 2)
	puts(t, s, nil, 3)
	commits(t, s, []byte("st"), api.OK)
	stands(t, s, 2, 1, 3, 3, 6, 1)
	asks(record(4, "st", 1, 2, 1, 1, 3, 300, 1, 6, 0))
	asks([]byte{4, 2, 's', 't', 3, 1, 2, 1, 1, 3, 172, 2, 1, 6, 0})
	keeps(t, s, 1, 1, 3)
	puts(t, s, text(130, 1), 4)
	commits(t, s, nil, api.OK)
	asks(record(5, "", 1, 2, 1, 2, 6, 0, 1, 8, 130))
	keeps(t, s, 3)
	commits(t, s, text(400, 1), api.OK)
	asks(record(5, string(text(400, 1))))
	puts(t, s, []byte("a"), 5)
	commits(t, s, text(39*124, 1), api.ErrSpace)
	asks(record(5, string(text(400, 1))))
}

func TestP8_1Right(t *testing.T) {
	whole(t, laid(t, right()))
	for _, c := range []struct {
		root []byte
		next uint64
		l    []uint64
	}{
		{record(1, ""), 1, nil},
		{record(77, "st"), 77, nil},
		{record(top-1, ""), top - 1, nil},
		{record(2, "", 1, 1, 1), 2, []uint64{1}},
		{record(3, "", 1, 1, 1), 3, []uint64{1}},
		{record(3, "", 1, 2, 300, 1, 1, 1), 3, []uint64{1, 2}},
		{record(top-1, "", 1, 2, 300, top-3, 1, 1), top - 1, []uint64{1, top - 2}},
		{record(9, "", 2, 1, 0, 3, 5, 1), 9, []uint64{2, 5}},
		{record(9, "", 2, 1, 124), 9, []uint64{2}},
		{record(9, "", 2, 3, 248), 9, []uint64{2}},
		{record(9, "", 2, 3, 1, 1, 2, 1, 1, 4, 1), 9, []uint64{2, 3, 4}},
		{record(9, string(text(350, 1)), 2, 1, 1), 9, []uint64{2}},
	} {
		d := laid(t, c.root)
		s := opens(t, d)
		ids(t, s, c.l...)
		nexts(t, s, c.next)
		state := s.State()
		commits(t, s, state, api.OK)
		if _, got, e := pager.Open(d); e != api.OK || !bytes.Equal(got, c.root) {
			t.Fatalf("%v is committed as %v", c.root, got)
		}
	}
}

func TestP8_1Wrong(t *testing.T) {
	for _, root := range [][]byte{
		{}, {0}, {128}, {9}, {9, 0}, {9, 3, 's', 't'}, {9, 2, 's', 't'}, bytes.Repeat([]byte{255}, 40), bytes.Repeat([]byte{0}, 40), bytes.Repeat([]byte{1}, 40),
		append(right(), 0), append(right(), right()...), append(record(1, ""), 1), append([]byte{128 + 9, 0}, right()[1:]...),
		record(0, ""), record(0, "st"), record(0, "", 1, 1, 1), record(0, "", 2, 1, 1, 1, 2, 300), record(0, "", top, 1, 1),
		record(9, "", 0, 1, 1), record(9, "", 2, 1, 1, 0, 5, 1), record(9, "", 2, 1, 1, 1, 5, 1, 0, 2, 300),
		record(9, "", 9, 1, 1), record(9, "", 10, 1, 1), record(9, "", 2, 1, 1, 7, 5, 1), record(9, "", 2, 1, 1, 8, 5, 1), record(1, "", 1, 1, 1), record(9, "", top, 1, 1),
		record(9, "", 5, 1, 1, top, 5, 1), record(9, "", 5, 1, 1, top-1, 5, 1), record(9, "", 5, 1, 1, top-4, 5, 1), record(9, "", 5, 1, 1, top-3, 5, 1), record(top, "", 5, 1, 1, top-5, 5, 1), record(top, "", 5, 1, 1, top-2, 5, 1),
		record(9, "", 2, 0, 1), record(9, "", 2, 0, 0), record(9, "", 2, 0, 300), record(9, "", 2, 10, 1), record(9, "", 2, 9, 200), record(9, "", 2, 16383, 1), record(9, "", 2, 16384, 1), record(9, "", 2, 16385, 1),
		record(9, "", 2, top, 1), record(9, "", 2, 1<<63, 1), record(9, "", 2, 1<<63+1, 1), record(9, "", 2, 1<<32+1, 1), record(9, "", 2, math.MaxInt64, 1), record(9, "", 2, 1<<62, 1), record(9, "", 2, 1<<31, 1),
		record(9, "", 2, 6, 1), record(9, "", 2, 5, 125), record(9, "", 2, 4, 300), record(9, "", 2, 1, 1, 1, 6, 1),
		record(9, "", 2, 1, 1, 1, 1, 1), record(9, "", 2, 2, 300, 1, 2, 300), record(9, "", 2, 2, 300, 1, 3, 1), record(9, "", 2, 2, 300, 1, 4, 1), record(9, "", 2, 3, 1, 1, 2, 300), record(9, "", 2, 2, 300, 1, 1, 125),
		record(9, "", 2, 1, 9*124), record(9, "", 2, 1, most), record(9, "", 2, 1, most+1), record(9, "", 2, 1, 1<<63), record(9, "", 2, 1, 1<<32+1), record(9, "", 2, 1, top), record(9, "", 2, 1, 1<<63+1),
		nums(9, 0, top), nums(9, 0, 1), nums(9, 0, 4, 2, 1, 1), nums(9, 0, 2, 2, 1, 1), nums(9, 0, 0, 2, 1, 1), nums(9, 0, 1, 2), nums(9, 0, 1, 2, 1), nums(9, 0, 1<<40, 2, 1, 1), nums(9, 0, 16385, 2, 1, 1),
		nums(9, top, 0), nums(9, 1<<31, 0), nums(9, most+1, 0), nums(top, top, top),
	} {
		d := laid(t, root)
		was := sectors(t, d)
		opensNot(t, d, api.ErrChunk)
		if !bytes.Equal(sectors(t, d), was) {
			t.Fatalf("Open with the root %v wrote", root)
		}
	}
	for n := range right() {
		opensNot(t, laid(t, right()[:n]), api.ErrChunk)
	}
}

// The root's own pages, where it has several: none of them is free to be claimed.
func TestP8_1RootsOwn(t *testing.T) {
	state := string(text(200, 1))
	for start := range uint64(12) {
		d := laid(t, record(9, state, 2, start, 1))
		s, e := chunk.Open(d)
		want := api.ErrChunk
		if start >= 1 && start <= 5 {
			want = api.OK
		} else if start == 8 || start == 9 {
			want = api.ErrSum
		}
		if e != want || (s != nil) != (want == api.OK) {
			t.Fatalf("with a chunk at %d: %d, not %d", start, e, want)
		}
	}
}

// Two chunks of the same bytes, next to each other or not: ErrChunk. Bytes of the same sum, or such as begin alike, aren't the same.
func TestP8_1Same(t *testing.T) {
	l := twins(t)
	for i := range 3 {
		for j := range i {
			for _, c := range []struct{ a, b []byte }{{[]byte("x"), []byte("x")}, {nil, nil}, {text(100, 1), text(100, 1)}, {l[0], l[0]}, {l[0], l[1]}, {l[4], l[5]}, {[]byte("x"), []byte("x\x00")}, {nil, []byte{0}}} {
				texts := [][]byte{text(7, 1), text(8, 2), text(9, 3)}
				texts[i], texts[j] = c.a, c.b
				d := laid(t, record(9, "", 1, 1, uint64(len(texts[0])), 1, 5, uint64(len(texts[1])), 1, 3, uint64(len(texts[2]))))
				for k, page := range []int{1, 5, 3} {
					if e := pager.Write(d, page, texts[k]); e != api.OK {
						t.Fatalf("Write: %d", e)
					}
				}
				if bytes.Equal(c.a, c.b) {
					opensNot(t, d, api.ErrChunk)
					continue
				}
				s := opens(t, d)
				for k, b := range texts {
					gets(t, s, uint64(k+1), b)
					finds(t, s, b, uint64(k+1))
				}
			}
		}
	}
}

func flip(d *dev.Dev, at int) {
	b, _ := d.Read(at)
	b[at%32] ^= 0x10
	d.Write(at, b)
}

// A page of a chunk or of the root that was changed or can't be read; what is free may be as it likes.
func TestP8_1Unread(t *testing.T) {
	for at := 4; at < 40; at++ {
		d := laid(t, right())
		d.Fault(at, true)
		if at >= 7*4 {
			ids(t, opens(t, d), 2, 3, 8)
		} else {
			opensNot(t, d, api.ErrRead)
		}
		d.Fault(at, false)
		flip(d, at)
		if at >= 7*4 {
			whole(t, d)
			continue
		}
		opensNot(t, d, api.ErrSum)
		flip(d, at)
		whole(t, d)
	}
}

// All that is ErrChunk is named ahead of the pager's errors; of these the first chunk's is told.
func TestP8_1ErrorsInOrder(t *testing.T) {
	d := laid(t, record(9, "", 2, 1, 1, 1, 5, 1, 1, 2, 300, 1, 7, 1))
	opensNot(t, d, api.ErrSum)
	d.Fault(8, true)
	opensNot(t, d, api.ErrRead)
	flip(d, 20)
	opensNot(t, d, api.ErrSum)
	flip(d, 20)
	d.Fault(4, true)
	flip(d, 20)
	opensNot(t, d, api.ErrRead)
	for _, root := range [][]byte{
		append(right(), 0),
		record(9, "", 2, 1, 1, 0, 5, 1),
		record(9, "", 2, 1, 1, 7, 5, 1),
		record(9, "", 2, 1, 1, 1, 6, 1),
		record(9, "", 2, 1, 1, 1, 5, 1, 1, 2, 300, 1, 9, 125),
	} {
		d := laid(t, root)
		d.Fault(4, true)
		flip(d, 20)
		opensNot(t, d, api.ErrChunk)
	}
	for bad := range 3 {
		pages := slices.Insert([]int{5, 4}, bad, 1)
		d := laid(t, record(9, "", 2, uint64(pages[0]), 1, 1, uint64(pages[1]), 1, 1, uint64(pages[2]), 1))
		pager.Write(d, 4, []byte("c"))
		flip(d, 4)
		opensNot(t, d, api.ErrChunk)
		pager.Write(d, 4, []byte("d"))
		opensNot(t, d, api.ErrSum)
	}
}

// The numbers' end: the greatest one isn't given, since none is below next then.
func TestP8_1LastNumbers(t *testing.T) {
	d := laid(t, record(top-2, "", 2, 1, 1))
	s := opens(t, d)
	puts(t, s, []byte("x"), top-2)
	puts(t, s, []byte("y"), top-1)
	putsNot(t, s, []byte("z"), api.ErrSpace)
	putsNot(t, s, text(most+1, 1), api.ErrLong)
	puts(t, s, []byte("x"), top-2)
	puts(t, s, []byte("a"), 2)
	free(t, s, 5)
	s.Abort()
	puts(t, s, []byte("z"), top-2)
	puts(t, s, []byte("x"), top-1)
	commits(t, s, nil, api.OK)
	for _, x := range []*chunk.Store{s, opens(t, d)} {
		ids(t, x, 2, top-2, top-1)
		getsNot(t, x, top, api.ErrNone)
		gets(t, x, top-1, []byte("x"))
		putsNot(t, x, []byte("y"), api.ErrSpace)
		puts(t, x, []byte("z"), top-2)
		x.Abort()
		keeps(t, x, 3)
		putsNot(t, x, []byte("z"), api.ErrSpace)
		x.Abort()
		ids(t, x, 2, top-2, top-1)
	}
	commits(t, s, []byte("on"), api.OK)
	stated(t, opens(t, d), []byte("on"))
	s = opens(t, laid(t, record(top, "", top-1, 1, 1)))
	ids(t, s, top-1)
	putsNot(t, s, nil, api.ErrSpace)
}

// With the greatest Epoch there is no Commit any more, and nothing has changed.
func TestP8_3LastEpoch(t *testing.T) {
	d := laid(t, right())
	if e := super.Save(d, api.Super{Epoch: top, Start: 6, Pages: 1, Size: uint32(len(right()))}); e != api.OK {
		t.Fatalf("Save: %d", e)
	}
	s := whole(t, d)
	puts(t, s, []byte("x"), 9)
	keeps(t, s, 2, 2, 9)
	commits(t, s, nil, api.ErrSpace)
	ids(t, s, 2, 3, 8)
	whole(t, d)
}

// Any bytes as a root: what is opened is committed as the same bytes.
func FuzzRoot(f *testing.F) {
	f.Add(right())
	f.Add(record(1, ""))
	f.Add(record(9, "", 5, 1, 1, top, 5, 1))
	f.Add(record(9, "st", 2, 1, 1, 1, 2, 300, 5, 5, 0))
	f.Fuzz(func(t *testing.T, root []byte) {
		if len(root) > 300 {
			return
		}
		d := laid(t, root)
		s, e := chunk.Open(d)
		if e != api.OK {
			if s != nil || !slices.Contains([]api.Errno{api.ErrChunk, api.ErrSum}, e) {
				t.Fatalf("Open: %v, %d", s, e)
			}
			return
		}
		was := slices.Collect(s.Ids())
		if e := s.Commit(s.State()); e == api.ErrSpace {
			return
		}
		if _, got, e := pager.Open(d); e != api.OK || !bytes.Equal(got, root) {
			t.Fatalf("%v is committed as %v", root, got)
		}
		ids(t, opens(t, d), was...)
	})
}
