package pager_test

import (
	"bytes"
	"encoding/binary"
	"hash/fnv"
	"math"
	"testing"

	"apograph/api"
	"apograph/dev"
	"apograph/pager"
)

const most = 131072

// text is size bytes that aren't 0, and unlike from seed to seed and from page to page.
func text(size, seed int) []byte {
	b := make([]byte, size)
	for i := range b {
		b[i] = byte(1 + (i*7+i/124*31+seed*13)%255)
	}
	return b
}

// meant is a text in pages, its sums made by the library.
func meant(b []byte) []byte {
	var all []byte
	for {
		part := make([]byte, 124)
		b = b[copy(part, b):]
		h := fnv.New64a()
		h.Write(part)
		sum := h.Sum64()
		all = binary.BigEndian.AppendUint32(all, uint32(sum>>32)^uint32(sum))
		all = append(all, part...)
		if len(b) == 0 {
			return all
		}
	}
}

// sectors is all that a device has, one sector behind the other.
func sectors(t *testing.T, d *dev.Dev) []byte {
	t.Helper()
	var all []byte
	for at := range d.Size() {
		b, e := d.Read(at)
		if e != api.OK {
			t.Fatalf("Read of sector %d: %d", at, e)
		}
		all = append(all, b...)
	}
	return all
}

// full is a device whose sectors all have bytes that aren't 0.
func full(t *testing.T, n int) *dev.Dev {
	t.Helper()
	d := dev.New(n)
	for at := range n {
		if e := d.Write(at, bytes.Repeat([]byte{0xee}, 32)); e != api.OK {
			t.Fatalf("Write of sector %d: %d", at, e)
		}
	}
	flush(t, d)
	return d
}

func flush(t *testing.T, d *dev.Dev) {
	t.Helper()
	if e := d.Flush(); e != api.OK {
		t.Fatalf("Flush: %d", e)
	}
}

// dead is a device that died.
func dead(t *testing.T, n int) *dev.Dev {
	t.Helper()
	d := dev.New(n)
	d.Arm(0)
	d.Flush()
	if !d.Dead() {
		t.Fatal("the device isn't dead")
	}
	return d
}

func writes(t *testing.T, d *dev.Dev, start int, b []byte, want api.Errno) {
	t.Helper()
	was := bytes.Clone(b)
	if e := pager.Write(d, start, b); e != want {
		t.Fatalf("Write(%d, %d bytes): %d, not %d", start, len(b), e, want)
	}
	if !bytes.Equal(b, was) {
		t.Fatalf("Write(%d, %d bytes) changed them", start, len(b))
	}
}

func reads(t *testing.T, d *dev.Dev, start, size int, want []byte) {
	t.Helper()
	for range 2 {
		got, e := pager.Read(d, start, size)
		if e != api.OK || !bytes.Equal(got, want) {
			t.Fatalf("Read(%d, %d): %d, %d bytes, not the %d", start, size, e, len(got), len(want))
		}
		clear(got)
	}
}

func readsNot(t *testing.T, d *dev.Dev, start, size int, want api.Errno) {
	t.Helper()
	if got, e := pager.Read(d, start, size); e != want || len(got) != 0 {
		t.Fatalf("Read(%d, %d): %d, %d bytes, not %d", start, size, e, len(got), want)
	}
}

// far are starts that no device has, among them such as wrap round to sectors that there are.
func far() []int {
	return []int{
		-1, -2, -4, -16384, math.MinInt, math.MinInt + 1, math.MinInt / 2, math.MinInt / 4, math.MinInt/4 + 1, math.MinInt/2 + 2,
		16384, 16385, 65536, math.MaxInt, math.MaxInt - 1, math.MaxInt/2 + 1, math.MaxInt/4 + 1, math.MaxInt/4 + 2, math.MaxInt/2 + 3, math.MaxInt / 4,
	}
}

func TestP7_1Need(t *testing.T) {
	for _, c := range [][2]int{
		{math.MinInt, 0}, {math.MinInt + 1, 0}, {-125, 0}, {-124, 0}, {-123, 0}, {-1, 0},
		{0, 1}, {1, 1}, {123, 1}, {124, 1}, {125, 2}, {247, 2}, {248, 2}, {249, 3}, {372, 3}, {373, 4},
		{131068, 1057}, {131069, 1058}, {131071, 1058}, {131072, 1058}, {131073, 0}, {131192, 0}, {1 << 31, 0}, {1 << 32, 0},
		{math.MaxInt - 123, 0}, {math.MaxInt - 122, 0}, {math.MaxInt - 1, 0}, {math.MaxInt, 0},
	} {
		if got := pager.Need(c[0]); got != c[1] {
			t.Errorf("Need(%d): %d, not %d", c[0], got, c[1])
		}
	}
	for size := 1; size <= most; size++ {
		if n := pager.Need(size); n*124 < size || (n-1)*124 >= size {
			t.Fatalf("Need(%d): %d", size, n)
		}
	}
}

// The bytes of a page as they are, so that no sum of another making takes this one's place.
func TestP7_1Page(t *testing.T) {
	d := dev.New(8)
	writes(t, d, 1, []byte("abc"), api.OK)
	got := sectors(t, d)[128:]
	h := uint64(14695981039346656037)
	for _, c := range append([]byte("abc"), make([]byte, 121)...) {
		h = (h ^ uint64(c)) * 1099511628211
	}
	sum := uint32(h>>32) ^ uint32(h)
	want := []byte{byte(sum >> 24), byte(sum >> 16), byte(sum >> 8), byte(sum)}
	want = append(want, "abc"...)
	want = append(want, make([]byte, 121)...)
	if !bytes.Equal(got, want) {
		t.Fatalf("page: %v, not %v", got, want)
	}
}

func TestP7_1WriteThenRead(t *testing.T) {
	for _, size := range []int{0, 1, 2, 31, 32, 33, 123, 124, 125, 247, 248, 249, 372, 500} {
		n := max(1, (size+123)/124)
		for start := 0; start+n <= 7; start++ {
			d := full(t, 28)
			want := sectors(t, d)
			b := text(size, start)
			writes(t, d, start, b, api.OK)
			if d.Cached() != 4*n {
				t.Fatalf("%d bytes: %d sectors are written", size, d.Cached())
			}
			copy(want[128*start:], meant(b))
			if got := sectors(t, d); !bytes.Equal(got, want) {
				t.Fatalf("%d bytes at %d: the device has other bytes", size, start)
			}
			reads(t, d, start, size, b)
			d.Crash(api.Fate{Torn: -1})
			readsNot(t, d, start, size, api.ErrSum)
		}
	}
	none := dev.New(4)
	writes(t, none, 0, nil, api.OK)
	reads(t, none, 0, 0, nil)
	reads(t, none, 0, 124, make([]byte, 124))
}

func TestP7_1Greatest(t *testing.T) {
	b := text(most, 3)
	d := dev.New(65536)
	for _, start := range []int{0, 16384 - 1058} {
		writes(t, d, start, b, api.OK)
		flush(t, d)
		reads(t, d, start, most, b)
		reads(t, d, start, most-1, b[:most-1])
		got := sectors(t, d)[128*start:][:128*1058]
		if !bytes.Equal(got, meant(b)) {
			t.Fatalf("at %d the device has other bytes", start)
		}
	}
	writes(t, d, 16384-1057, b, api.ErrRange)
	writes(t, d, 16383, text(124, 1), api.OK)
	reads(t, d, 16383, 124, text(124, 1))
	writes(t, d, 16383, text(125, 1), api.ErrRange)
	readsNot(t, d, 16383, 125, api.ErrRange)
}

func TestP7_1WriteTooLong(t *testing.T) {
	for _, d := range []*dev.Dev{dev.New(65536), dev.New(8), dead(t, 8), {}, nil} {
		for _, start := range append(far(), 0, 1) {
			writes(t, d, start, make([]byte, most+1), api.ErrLong)
			writes(t, d, start, make([]byte, 2*most), api.ErrLong)
		}
		if d.Cached() != 0 {
			t.Fatal("something was written")
		}
	}
}

func TestP7_1NoSuchPages(t *testing.T) {
	for _, start := range far() {
		for _, size := range []int{0, 1, 124, 125, 1000, most} {
			d := full(t, 40)
			writes(t, d, start, make([]byte, size), api.ErrRange)
			readsNot(t, d, start, size, api.ErrRange)
			if d.Cached() != 0 {
				t.Fatalf("Write(%d, %d bytes) wrote", start, size)
			}
			gone := dead(t, 40)
			writes(t, gone, start, make([]byte, size), api.ErrDev)
			readsNot(t, gone, start, size, api.ErrDev)
		}
	}
}

// What lies ahead of the device's end is written, sector by sector.
func TestP7_1AcrossTheEnd(t *testing.T) {
	for size := 0; size <= 14; size++ {
		for start := 0; start < 5; start++ {
			for _, n := range []int{1, 2, 3} {
				b := text(124*n-5, start)
				d := dev.New(size)
				there := max(0, min(4*n, size-4*start))
				want := api.ErrRange
				if there == 4*n {
					want = api.OK
				}
				writes(t, d, start, b, want)
				if d.Cached() != there {
					t.Fatalf("of %d sectors from %d on %d are written, not %d", 4*n, 4*start, d.Cached(), there)
				}
				if there > 0 && !bytes.Equal(sectors(t, d)[128*start:][:32*there], meant(b)[:32*there]) {
					t.Fatal("those that are there have other bytes")
				}
				if want == api.OK {
					reads(t, d, start, len(b), b)
				} else {
					readsNot(t, d, start, len(b), want)
				}
			}
		}
	}
}

func TestP7_1ReadSizes(t *testing.T) {
	d := dev.New(40)
	b := text(300, 1)
	writes(t, d, 2, b, api.OK)
	for size := 0; size <= 300; size++ {
		reads(t, d, 2, size, b[:size])
	}
	for size := 301; size <= 372; size++ {
		reads(t, d, 2, size, append(bytes.Clone(b), make([]byte, size-300)...))
	}
	for size := 373; size <= 124*8; size++ {
		readsNot(t, d, 2, size, api.ErrSum)
	}
	readsNot(t, d, 2, 124*8+1, api.ErrRange)
	for _, size := range []int{-1, -124, math.MinInt, most + 1, math.MaxInt} {
		for _, other := range []*dev.Dev{d, dead(t, 40), {}, nil} {
			for _, start := range append(far(), 0, 2, 9, 10) {
				readsNot(t, other, start, size, api.ErrRange)
			}
		}
	}
	writes(t, d, 5, text(200, 2), api.OK)
	reads(t, d, 2, 572, append(append(bytes.Clone(b), make([]byte, 72)...), text(200, 2)...))
	reads(t, d, 3, 124, b[124:248])
}

// Any byte of a page that is changed is found, in whichever page it is.
func TestP7_1ReadChanged(t *testing.T) {
	for _, size := range []int{0, 1, 124, 125, 250} {
		d := dev.New(20)
		b := text(size, 2)
		writes(t, d, 1, b, api.OK)
		flush(t, d)
		for at := range pager.Need(size) * 128 {
			for _, by := range []byte{1, 0x80, 0xff} {
				c := d.Copy()
				sector, _ := c.Read(4 + at/32)
				sector[at%32] ^= by
				if e := c.Write(4+at/32, sector); e != api.OK {
					t.Fatal(e)
				}
				readsNot(t, c, 1, size, api.ErrSum)
				if at >= 128 {
					reads(t, c, 1, 124, b[:124])
				}
			}
		}
	}
	zero := dev.New(8)
	for size := range 125 {
		readsNot(t, zero, 1, size, api.ErrSum)
	}
}

// Of a page of which less is asked for than it has, the rest isn't handed out, not even behind the answer's length.
func TestP7_1ReadLess(t *testing.T) {
	d := dev.New(8)
	writes(t, d, 1, text(100, 1), api.OK)
	reads(t, d, 1, 60, text(60, 1))
	got, _ := pager.Read(d, 1, 60)
	if cap(got) > 60 && bytes.ContainsFunc(got[:cap(got)][60:], func(r rune) bool { return r != 0 }) {
		t.Fatal("more than the bytes is handed out")
	}
}

func TestP7_1ReadFaults(t *testing.T) {
	d := dev.New(24)
	b := text(300, 1)
	writes(t, d, 2, b, api.OK)
	for at := range 24 {
		d.Fault(at, true)
		if at >= 8 && at < 20 {
			readsNot(t, d, 2, 300, api.ErrRead)
		} else {
			reads(t, d, 2, 300, b)
		}
		if at >= 12 {
			reads(t, d, 2, 124, b[:124])
		}
		d.Fault(at, false)
	}
	reads(t, d, 2, 300, b)
}

// Errors of sectors are named first: they come ahead of a sum's, wherever they are; of two sectors the first one's counts.
func TestP7_1ReadOrder(t *testing.T) {
	d := dev.New(16)
	writes(t, d, 1, text(300, 1), api.OK)
	wrong := make([]byte, 32)
	for _, page := range []int{1, 2, 3} {
		c := d.Copy()
		c.Write(4*page+1, wrong)
		readsNot(t, c, 1, 300, api.ErrSum)
		for at := 4; at < 16; at++ {
			c.Fault(at, true)
			readsNot(t, c, 1, 300, api.ErrRead)
			readsNot(t, c, 1, 373, api.ErrRead)
			c.Fault(at, false)
		}
		readsNot(t, c, 1, 373, api.ErrRange)
		c.Arm(0)
		c.Flush()
		c.Fault(4, true)
		readsNot(t, c, 1, 300, api.ErrDev)
	}
}

func TestP7_1Devices(t *testing.T) {
	for _, d := range []*dev.Dev{nil, {}, dev.New(0), dev.New(-1)} {
		for _, start := range []int{0, 1} {
			for _, size := range []int{0, 1, 124, 125, most} {
				writes(t, d, start, make([]byte, size), api.ErrRange)
				readsNot(t, d, start, size, api.ErrRange)
			}
		}
	}
	gone := dead(t, 40)
	writes(t, gone, 1, nil, api.ErrDev)
	readsNot(t, gone, 1, 0, api.ErrDev)
}

func TestP7_1DiesWithinWrite(t *testing.T) {
	b := text(300, 5)
	for n := range 13 {
		d := dev.New(40)
		d.Arm(n)
		want := api.ErrDev
		if n == 12 {
			want = api.OK
		}
		writes(t, d, 2, b, want)
		if d.Cached() != n || d.Dead() != (n < 12) {
			t.Fatalf("of %d writes %d are there", n, d.Cached())
		}
		d.Crash(api.Fate{Keep: []bool{true, true, true, true, true, true, true, true, true, true, true, true}, Torn: -1})
		if got := sectors(t, d)[256:][:32*n]; !bytes.Equal(got, meant(b)[:32*n]) {
			t.Fatalf("of %d writes other bytes are there", n)
		}
	}
}

// Nothing is kept of what is given, and nothing behind its length is looked at or changed.
func TestP2Page(t *testing.T) {
	whole := bytes.Repeat([]byte{7}, 400)
	d := dev.New(16)
	writes(t, d, 1, whole[:130], api.OK)
	if !bytes.Equal(whole, bytes.Repeat([]byte{7}, 400)) {
		t.Fatal("Write changed what lies behind")
	}
	if got := sectors(t, d)[128:384]; !bytes.Equal(got, meant(bytes.Repeat([]byte{7}, 130))) {
		t.Fatal("Write took what lies behind")
	}
	clear(whole)
	reads(t, d, 1, 130, bytes.Repeat([]byte{7}, 130))
	a, _ := pager.Read(d, 1, 130)
	c, _ := pager.Read(d, 1, 130)
	_ = append(a, 9)
	clear(a)
	if !bytes.Equal(c, bytes.Repeat([]byte{7}, 130)) {
		t.Fatal("two answers share memory")
	}
	reads(t, d, 1, 130, c)
}

func FuzzPages(f *testing.F) {
	f.Add([]byte("a"), 1, 9)
	f.Add([]byte{}, 0, 4)
	f.Add(text(300, 1), 2, 40)
	f.Add(text(1000, 1), math.MaxInt/4+1, 40)
	f.Fuzz(func(t *testing.T, b []byte, start, size int) {
		if len(b) > most {
			return
		}
		d := dev.New(size % 100)
		e := pager.Write(d, start, b)
		pages := meant(b)
		fits := start >= 0 && start < 100 && 4*start+len(pages)/32 <= d.Size()
		if fits != (e == api.OK) || !fits && e != api.ErrRange {
			t.Fatalf("Write(%d, %d bytes) on %d sectors: %d", start, len(b), d.Size(), e)
		}
		if fits {
			reads(t, d, start, len(b), b)
			if !bytes.Equal(sectors(t, d)[128*start:][:len(pages)], pages) {
				t.Fatal("other bytes")
			}
		}
	})
}
