package pager_test

import (
	"bytes"
	"math"
	"slices"
	"testing"

	"apograph/api"
	"apograph/dev"
	"apograph/pager"
	"apograph/super"
)

// rows are spans, from pairs of a start and a length.
func rows(l ...int) []api.Span {
	var all []api.Span
	for i := 0; i < len(l); i += 2 {
		all = append(all, api.Span{Start: l[i], Pages: l[i+1]})
	}
	return all
}

func span(start, n int) api.Span {
	return api.Span{Start: start, Pages: n}
}

func formatted(t *testing.T, n int) *dev.Dev {
	t.Helper()
	d := dev.New(n)
	if e := pager.Format(d); e != api.OK {
		t.Fatalf("Format of %d sectors: %d", n, e)
	}
	return d
}

// opened is a Pager of a device whose root is known.
func opened(t *testing.T, d *dev.Dev, root []byte) *pager.Pager {
	t.Helper()
	p, b, e := pager.Open(d)
	if e != api.OK || p == nil || !bytes.Equal(b, root) {
		t.Fatalf("Open: %d, %q, not %q", e, b, root)
	}
	return p
}

// fresh is a Pager of a new device of so many pages.
func fresh(t *testing.T, n int) (*dev.Dev, *pager.Pager) {
	t.Helper()
	d := formatted(t, 4*n)
	return d, opened(t, d, nil)
}

func opensNot(t *testing.T, d *dev.Dev, want api.Errno) {
	t.Helper()
	if p, b, e := pager.Open(d); p != nil || len(b) != 0 || e != want {
		t.Fatalf("Open: %v, %q, %d, not %d", p, b, e, want)
	}
}

func free(t *testing.T, p *pager.Pager, want ...int) {
	t.Helper()
	if got := slices.Collect(p.Free().Spans()); !slices.Equal(got, rows(want...)) {
		t.Fatalf("free: %v, not %v", got, rows(want...))
	}
}

func rooted(t *testing.T, p *pager.Pager, want api.Span, epoch uint64) {
	t.Helper()
	if p.Root() != want || p.Epoch() != epoch {
		t.Fatalf("Root %v, Epoch %d, not %v, %d", p.Root(), p.Epoch(), want, epoch)
	}
}

func puts(t *testing.T, p *pager.Pager, b []byte, want api.Span) {
	t.Helper()
	if s, e := p.Put(b); e != api.OK || s != want {
		t.Fatalf("Put of %d bytes: %v, %d, not %v", len(b), s, e, want)
	}
	gets(t, p, want, b)
}

func putsNot(t *testing.T, p *pager.Pager, b []byte, want api.Errno) {
	t.Helper()
	if s, e := p.Put(b); e != want || s != (api.Span{}) {
		t.Fatalf("Put of %d bytes: %v, %d, not %d", len(b), s, e, want)
	}
}

func gets(t *testing.T, p *pager.Pager, s api.Span, want []byte) {
	t.Helper()
	if got, e := p.Get(s, len(want)); e != api.OK || !bytes.Equal(got, want) {
		t.Fatalf("Get(%v, %d): %d, %d bytes, not those", s, len(want), e, len(got))
	}
}

func getsNot(t *testing.T, p *pager.Pager, s api.Span, size int, want api.Errno) {
	t.Helper()
	if got, e := p.Get(s, size); e != want || len(got) != 0 {
		t.Fatalf("Get(%v, %d): %d, %d bytes, not %d", s, size, e, len(got), want)
	}
}

func drops(t *testing.T, p *pager.Pager, start, n int, want bool) {
	t.Helper()
	if got := p.Drop(span(start, n)); got != want {
		t.Fatalf("Drop(%d, %d): %v", start, n, got)
	}
}

func claims(t *testing.T, p *pager.Pager, start, n int, want bool) {
	t.Helper()
	if got := p.Claim(span(start, n)); got != want {
		t.Fatalf("Claim(%d, %d): %v", start, n, got)
	}
}

func commits(t *testing.T, p *pager.Pager, root []byte, want api.Errno) {
	t.Helper()
	if e := p.Commit(root); e != want {
		t.Fatalf("Commit of %d bytes: %d, not %d", len(root), e, want)
	}
}

// saves lays a super as it is meant to be, whatever it says.
func saves(t *testing.T, d *dev.Dev, s api.Super) {
	t.Helper()
	if e := super.Save(d, s); e != api.OK {
		t.Fatalf("Save: %d", e)
	}
}

func TestExamples(t *testing.T) {
	d, p := fresh(t, 10)
	commits(t, p, []byte("a"), api.OK)
	opened(t, d, []byte("a"))
}

func TestP7_2Format(t *testing.T) {
	for n := range 20 {
		d := full(t, n)
		want := sectors(t, d)
		e := pager.Format(d)
		if n < 8 {
			if e != api.ErrSpace || !bytes.Equal(sectors(t, d), want) || d.Cached() != 0 {
				t.Fatalf("Format of %d sectors: %d", n, e)
			}
			continue
		}
		clear(want[:32])
		copy(want[32:], super.Put(api.Super{Epoch: 1}))
		if e != api.OK || !bytes.Equal(sectors(t, d), want) || d.Cached() != 0 {
			t.Fatalf("Format of %d sectors: %d", n, e)
		}
		p := opened(t, d, nil)
		rooted(t, p, api.Span{}, 1)
		free(t, p, 1, n/4-1)
	}
	for _, d := range []*dev.Dev{nil, {}, dead(t, 0), dead(t, 7)} {
		if e := pager.Format(d); e != api.ErrSpace {
			t.Fatalf("Format of a device without pages: %d", e)
		}
	}
	if e := pager.Format(dead(t, 8)); e != api.ErrDev {
		t.Fatalf("Format of a dead device: %d", e)
	}
	opened(t, formatted(t, 65536), nil)
}

// Whatever a device held, and whatever Epoch it had come to, it begins anew.
func TestP7_2FormatAgain(t *testing.T) {
	d, p := fresh(t, 10)
	for i := range 5 {
		commits(t, p, text(200, i), api.OK)
		c := d.Copy()
		if e := pager.Format(c); e != api.OK {
			t.Fatalf("Format: %d", e)
		}
		q := opened(t, c, nil)
		rooted(t, q, api.Span{}, 1)
		free(t, q, 1, 9)
	}
	saves(t, d, api.Super{Epoch: math.MaxUint64, Start: 1, Pages: 2, Size: 200})
	if e := pager.Format(d); e != api.OK {
		t.Fatalf("Format: %d", e)
	}
	rooted(t, opened(t, d, nil), api.Span{}, 1)
}

func TestP7_2FormatDies(t *testing.T) {
	for n := range 6 {
		d := dev.New(8)
		d.Arm(n)
		want := api.ErrDev
		if n == 5 {
			want = api.OK
		}
		if e := pager.Format(d); e != want || d.Dead() != (n < 5) {
			t.Fatalf("Format of a device that dies behind %d: %d", n, e)
		}
		for _, keep := range []bool{false, true} {
			c := d.Copy()
			c.Crash(api.Fate{Keep: []bool{keep, keep}, Torn: -1})
			if n == 5 || n == 4 && keep {
				rooted(t, opened(t, c, nil), api.Span{}, 1)
			} else {
				opensNot(t, c, api.ErrSuper)
			}
			if e := pager.Format(c); e != api.OK {
				t.Fatalf("Format behind the crash: %d", e)
			}
			opened(t, c, nil)
		}
	}
}

func TestP7_2OpenNever(t *testing.T) {
	opensNot(t, nil, api.ErrRange)
	opensNot(t, &dev.Dev{}, api.ErrRange)
	opensNot(t, dev.New(0), api.ErrRange)
	opensNot(t, dev.New(1), api.ErrRange)
	opensNot(t, dev.New(2), api.ErrSuper)
	opensNot(t, dev.New(40), api.ErrSuper)
	opensNot(t, full(t, 40), api.ErrSuper)
	opensNot(t, dead(t, 40), api.ErrDev)
	for at := range 2 {
		d := formatted(t, 40)
		d.Fault(at, true)
		opensNot(t, d, api.ErrRead)
		d.Fault(at, false)
		opened(t, d, nil)
	}
	small := dev.New(2)
	saves(t, small, api.Super{Epoch: 1})
	free(t, opened(t, small, nil))
}

func TestP7_2OpenRoot(t *testing.T) {
	for _, size := range []int{0, 1, 124, 125, 500} {
		n := max(1, (size+123)/124)
		for start := 1; start+n <= 10; start++ {
			d := formatted(t, 43)
			b := text(size, start)
			writes(t, d, start, b, api.OK)
			saves(t, d, api.Super{Epoch: 9, Start: uint32(start), Pages: uint32(n), Size: uint32(size)})
			p := opened(t, d, b)
			rooted(t, p, span(start, n), 9)
			var want []int
			if start > 1 {
				want = append(want, 1, start-1)
			}
			if start+n < 10 {
				want = append(want, start+n, 10-start-n)
			}
			free(t, p, want...)
		}
	}
	d := formatted(t, 65536)
	b := text(most, 1)
	writes(t, d, 16384-1058, b, api.OK)
	saves(t, d, api.Super{Epoch: 2, Start: 16384 - 1058, Pages: 1058, Size: most})
	p := opened(t, d, b)
	free(t, p, 1, 16384-1058-1)
}

func TestP7_2OpenRootErrors(t *testing.T) {
	const high = math.MaxUint32
	d := formatted(t, 42)
	writes(t, d, 3, text(300, 1), api.OK)
	writes(t, d, 9, text(100, 2), api.OK)
	flush(t, d)
	for _, c := range []struct {
		start, pages, size uint32
		want               api.Errno
	}{
		{3, 3, 300, api.OK}, {3, 3, 372, api.OK}, {3, 3, 249, api.OK}, {4, 2, 248, api.OK}, {9, 1, 124, api.OK}, {9, 1, 0, api.OK}, {0, 0, 0, api.OK},
		{3, 2, 300, api.ErrSuper}, {3, 4, 300, api.ErrSuper}, {3, 0, 300, api.ErrSuper}, {3, high, 300, api.ErrSuper}, {3, 3, 248, api.ErrSuper},
		{9, 0, 0, api.ErrSuper}, {9, 2, 124, api.ErrSuper}, {9, high, 1, api.ErrSuper}, {9, 0, 1, api.ErrSuper},
		{3, 4, 373, api.ErrSum}, {1, 1, 1, api.ErrSum}, {2, 4, 373, api.ErrSum}, {1, 0, 0, api.ErrSum}, {1, 7, 1, api.ErrSum},
		{0, 1, 0, api.ErrSum}, {0, 1, 5, api.ErrSum}, {0, 0, 5, api.ErrSum}, {0, 1, 0, api.ErrSum}, {0, 9, 124, api.ErrSum},
		{9, 2, 125, api.ErrRange}, {10, 1, 1, api.ErrRange}, {10, 0, 0, api.ErrRange}, {11, 1, 1, api.ErrRange}, {16384, 1, 1, api.ErrRange}, {high, 1, 1, api.ErrRange},
		{1 << 30, 1, 1, api.ErrRange}, {3, 1058, most, api.ErrRange}, {3, 1058, most + 1, api.ErrRange}, {3, 0, most + 1, api.ErrRange}, {3, 3, high, api.ErrRange}, {high, high, high, api.ErrRange},
	} {
		x := d.Copy()
		saves(t, x, api.Super{Epoch: 4, Start: c.start, Pages: c.pages, Size: c.size})
		if c.want != api.OK {
			opensNot(t, x, c.want)
			continue
		}
		p, b, e := pager.Open(x)
		if e != api.OK || len(b) != int(c.size) {
			t.Fatalf("Open with %v: %d, %d bytes", c, e, len(b))
		}
		rooted(t, p, span(int(c.start), int(c.pages)), 4)
	}
}

// A root at page 0 is none that may be, even if its page is a right one: here sector 0 has the sum of the super in sector 1.
func TestP7_2OpenRootAtZero(t *testing.T) {
	d := formatted(t, 40)
	s := api.Super{Epoch: 7, Start: 0, Pages: 1, Size: 124}
	whole := meant(append(append(make([]byte, 28), super.Put(s)...), make([]byte, 64)...))
	for i := range 4 {
		if e := d.Write(i, whole[32*i:][:32]); e != api.OK {
			t.Fatal(e)
		}
	}
	reads(t, d, 0, 124, whole[4:])
	opensNot(t, d, api.ErrSuper)
}

func TestP7_2OpenRootUnread(t *testing.T) {
	d, p := fresh(t, 10)
	commits(t, p, []byte("first"), api.OK)
	commits(t, p, text(300, 1), api.OK)
	rooted(t, p, span(2, 3), 3)
	for at := 2; at < 40; at++ {
		c := d.Copy()
		c.Fault(at, true)
		if at >= 8 && at < 20 {
			opensNot(t, c, api.ErrRead)
		} else {
			opened(t, c, text(300, 1))
		}
		c = d.Copy()
		b, _ := c.Read(at)
		b[at%32] ^= 0x40
		c.Write(at, b)
		if at >= 8 && at < 20 {
			opensNot(t, c, api.ErrSum)
			c.Fault(at, true)
			opensNot(t, c, api.ErrRead)
		} else {
			opened(t, c, text(300, 1))
		}
	}
}

func TestP7_3Put(t *testing.T) {
	d, p := fresh(t, 10)
	puts(t, p, nil, span(1, 1))
	puts(t, p, []byte("x"), span(2, 1))
	puts(t, p, text(124, 1), span(3, 1))
	puts(t, p, text(125, 2), span(4, 2))
	free(t, p, 6, 4)
	putsNot(t, p, text(124*4+1, 3), api.ErrSpace)
	putsNot(t, p, text(most, 3), api.ErrSpace)
	putsNot(t, p, text(most+1, 3), api.ErrLong)
	free(t, p, 6, 4)
	cached := d.Cached()
	putsNot(t, p, text(124*5, 3), api.ErrSpace)
	if d.Cached() != cached {
		t.Fatal("a Put without room wrote")
	}
	puts(t, p, text(124*4, 4), span(6, 4))
	free(t, p)
	putsNot(t, p, nil, api.ErrSpace)
	putsNot(t, p, text(most+1, 3), api.ErrLong)
	gets(t, p, span(1, 1), nil)
	gets(t, p, span(2, 1), []byte("x"))
	gets(t, p, span(4, 2), text(125, 2))
	rooted(t, p, api.Span{}, 1)
}

// Room in several rows is none: it takes one that is long enough, and of these the first.
func TestP7_3PutRows(t *testing.T) {
	_, p := fresh(t, 12)
	claims(t, p, 2, 1, true)
	claims(t, p, 5, 1, true)
	claims(t, p, 9, 1, true)
	free(t, p, 1, 1, 3, 2, 6, 3, 10, 2)
	putsNot(t, p, text(124*4, 1), api.ErrSpace)
	puts(t, p, text(124*3, 1), span(6, 3))
	putsNot(t, p, text(124*3, 1), api.ErrSpace)
	puts(t, p, text(124*2, 1), span(3, 2))
	puts(t, p, text(124*2, 1), span(10, 2))
	putsNot(t, p, text(124*2, 1), api.ErrSpace)
	puts(t, p, text(5, 1), span(1, 1))
	free(t, p)
}

func TestP7_3PutGreatest(t *testing.T) {
	d := formatted(t, 4*1059)
	p := opened(t, d, nil)
	puts(t, p, text(most, 1), span(1, 1058))
	free(t, p)
	commits(t, p, nil, api.ErrSpace)
	p.Abort()
	commits(t, p, text(most, 2), api.OK)
	rooted(t, p, span(1, 1058), 2)
	opened(t, d, text(most, 2))
}

func TestP7_3Get(t *testing.T) {
	d, p := fresh(t, 10)
	puts(t, p, text(300, 1), span(1, 3))
	puts(t, p, text(100, 2), span(4, 1))
	for size := -1; size < 600; size++ {
		for n := -1; n < 6; n++ {
			if size < 0 || n != max(1, (size+123)/124) {
				getsNot(t, p, span(1, n), size, api.ErrRange)
			}
		}
	}
	getsNot(t, p, span(1, 0), most+1, api.ErrRange)
	getsNot(t, p, span(1, 1058), most+1, api.ErrRange)
	getsNot(t, p, span(1, 0), -1, api.ErrRange)
	getsNot(t, p, span(1, 0), math.MinInt, api.ErrRange)
	getsNot(t, p, span(1, math.MaxInt), math.MaxInt, api.ErrRange)
	gets(t, p, span(1, 2), text(248, 1))
	gets(t, p, span(2, 1), text(248, 1)[124:])
	gets(t, p, span(3, 2), append(append(text(300, 1)[248:], make([]byte, 72)...), text(100, 2)...))
	getsNot(t, p, span(5, 1), 1, api.ErrSum)
	getsNot(t, p, span(4, 2), 125, api.ErrSum)
	getsNot(t, p, span(0, 1), 0, api.ErrSum)
	getsNot(t, p, span(9, 2), 125, api.ErrRange)
	for _, start := range far() {
		getsNot(t, p, span(start, 1), 1, api.ErrRange)
	}
	for at := 4; at < 16; at++ {
		d.Fault(at, true)
		getsNot(t, p, span(1, 3), 300, api.ErrRead)
		d.Fault(at, false)
		gets(t, p, span(1, 3), text(300, 1))
	}
	free(t, p, 5, 5)
}

func TestP7_3Drop(t *testing.T) {
	d, p := fresh(t, 10)
	puts(t, p, text(300, 1), span(1, 3))
	puts(t, p, text(200, 2), span(4, 2))
	commits(t, p, []byte("one"), api.OK)
	rooted(t, p, span(6, 1), 2)
	for start := -2; start < 13; start++ {
		for n := -2; n < 13; n++ {
			may := n >= 1 && start >= 1 && start+n <= 6
			q := opened(t, d.Copy(), []byte("one"))
			claims(t, q, 1, 5, true)
			drops(t, q, start, n, may)
			free(t, q, 7, 3)
			commits(t, q, nil, api.OK)
			count := 3
			if may {
				count += n
			}
			if got := q.Free().Count(); got != count {
				t.Fatalf("behind Drop(%d, %d): %d free, not %d", start, n, got, count)
			}
		}
	}
	for _, far := range []int{math.MinInt, math.MaxInt, math.MaxInt / 2, math.MinInt / 2} {
		for _, n := range []int{math.MinInt, -1, 0, 1, 2, math.MaxInt} {
			drops(t, p, far, n, false)
			drops(t, p, 1, far, false)
		}
	}
	free(t, p, 7, 3)
}

func TestP7_3DropTwice(t *testing.T) {
	_, p := fresh(t, 12)
	puts(t, p, text(600, 1), span(1, 5))
	commits(t, p, nil, api.OK)
	puts(t, p, text(300, 2), span(7, 3))
	free(t, p, 10, 2)
	drops(t, p, 2, 1, true)
	drops(t, p, 2, 1, false)
	drops(t, p, 1, 5, false)
	drops(t, p, 1, 2, false)
	drops(t, p, 2, 2, false)
	drops(t, p, 1, 1, true)
	drops(t, p, 3, 2, true)
	drops(t, p, 3, 2, false)
	drops(t, p, 5, 2, false)
	drops(t, p, 5, 1, true)
	drops(t, p, 6, 1, false)
	drops(t, p, 8, 1, true)
	drops(t, p, 7, 3, false)
	drops(t, p, 9, 2, false)
	drops(t, p, 10, 1, false)
	drops(t, p, 0, 1, false)
	free(t, p, 10, 2)
	gets(t, p, span(1, 5), text(600, 1))
	gets(t, p, span(7, 3), text(300, 2))
	commits(t, p, nil, api.OK)
	rooted(t, p, span(10, 1), 3)
	free(t, p, 1, 6, 8, 1, 11, 1)
	drops(t, p, 8, 1, false)
	drops(t, p, 7, 1, true)
	drops(t, p, 10, 1, false)
	commits(t, p, nil, api.OK)
	rooted(t, p, span(1, 1), 4)
	free(t, p, 2, 7, 10, 2)
	drops(t, p, 7, 1, false)
	drops(t, p, 9, 1, true)
}

// What was dropped isn't free ahead of the Commit: its pages are what a crash falls back on.
func TestP7_3DroppedNotTaken(t *testing.T) {
	_, p := fresh(t, 6)
	puts(t, p, text(300, 1), span(1, 3))
	commits(t, p, nil, api.OK)
	drops(t, p, 1, 3, true)
	claims(t, p, 1, 1, false)
	puts(t, p, text(10, 2), span(5, 1))
	putsNot(t, p, nil, api.ErrSpace)
	commits(t, p, nil, api.ErrSpace)
	free(t, p)
	rooted(t, p, span(4, 1), 2)
	p.Abort()
	free(t, p, 5, 1)
	drops(t, p, 1, 3, true)
	commits(t, p, text(3, 3), api.OK)
	free(t, p, 1, 4)
	puts(t, p, text(400, 1), span(1, 4))
}

func TestP7_3Commit(t *testing.T) {
	d, p := fresh(t, 10)
	commits(t, p, text(most+1, 0), api.ErrLong)
	commits(t, p, text(124*9+1, 0), api.ErrSpace)
	free(t, p, 1, 9)
	rooted(t, p, api.Span{}, 1)
	commits(t, p, text(124*9, 0), api.OK)
	rooted(t, p, span(1, 9), 2)
	free(t, p)
	opened(t, d, text(124*9, 0))
	commits(t, p, nil, api.ErrSpace)
	putsNot(t, p, nil, api.ErrSpace)
	opened(t, d, text(124*9, 0))
	rooted(t, p, span(1, 9), 2)
}

func TestP7_3CommitRow(t *testing.T) {
	d, p := fresh(t, 6)
	for i, c := range []struct {
		root int
		want api.Span
		free []int
	}{
		{0, span(1, 1), []int{2, 4}},
		{0, span(2, 1), []int{1, 1, 3, 3}},
		{1, span(1, 1), []int{2, 4}},
		{250, span(2, 3), []int{1, 1, 5, 1}},
		{124, span(1, 1), []int{2, 4}},
		{125, span(2, 2), []int{1, 1, 4, 2}},
		{248, span(4, 2), []int{1, 3}},
		{372, span(1, 3), []int{4, 2}},
	} {
		b := text(c.root, i)
		commits(t, p, b, api.OK)
		rooted(t, p, c.want, uint64(i+2))
		free(t, p, c.free...)
		q := opened(t, d, b)
		rooted(t, q, c.want, uint64(i+2))
		free(t, q, c.free...)
		if d.Cached() != 0 {
			t.Fatal("something isn't kept")
		}
		s, e := super.Load(d)
		want := api.Super{Epoch: uint64(i + 2), Start: uint32(c.want.Start), Pages: uint32(c.want.Pages), Size: uint32(c.root)}
		if e != api.OK || s != want {
			t.Fatalf("super: %v, %d, not %v", s, e, want)
		}
	}
}

func TestP7_3CommitPutAndDropped(t *testing.T) {
	d, p := fresh(t, 12)
	puts(t, p, text(200, 1), span(1, 2))
	puts(t, p, text(100, 2), span(3, 1))
	puts(t, p, text(300, 3), span(4, 3))
	drops(t, p, 3, 1, true)
	commits(t, p, []byte("one"), api.OK)
	rooted(t, p, span(7, 1), 2)
	free(t, p, 3, 1, 8, 4)
	gets(t, p, span(1, 2), text(200, 1))
	gets(t, p, span(4, 3), text(300, 3))
	puts(t, p, text(100, 4), span(3, 1))
	drops(t, p, 5, 1, true)
	drops(t, p, 1, 2, true)
	commits(t, p, text(1000, 1), api.ErrSpace)
	commits(t, p, text(most+1, 1), api.ErrLong)
	rooted(t, p, span(7, 1), 2)
	free(t, p, 8, 4)
	drops(t, p, 1, 1, false)
	commits(t, p, []byte("two"), api.OK)
	rooted(t, p, span(8, 1), 3)
	free(t, p, 1, 2, 5, 1, 7, 1, 9, 3)
	gets(t, p, span(3, 1), text(100, 4))
	gets(t, p, span(4, 1), text(124, 3))
	commits(t, p, nil, api.OK)
	commits(t, p, nil, api.OK)
	free(t, p, 1, 1, 5, 1, 7, 5)
	rooted(t, p, span(2, 1), 5)
	opened(t, d, nil)
}

// Where there is no next Epoch, a Commit would be lost without a word.
func TestP7_3CommitLastEpoch(t *testing.T) {
	d := formatted(t, 40)
	writes(t, d, 1, []byte("old"), api.OK)
	saves(t, d, api.Super{Epoch: math.MaxUint64 - 1, Start: 1, Pages: 1, Size: 3})
	p := opened(t, d, []byte("old"))
	commits(t, p, []byte("last"), api.OK)
	rooted(t, p, span(2, 1), math.MaxUint64)
	puts(t, p, []byte("x"), span(1, 1))
	commits(t, p, text(most+1, 1), api.ErrLong)
	commits(t, p, []byte("none"), api.ErrSpace)
	rooted(t, p, span(2, 1), math.MaxUint64)
	free(t, p, 3, 7)
	opened(t, d, []byte("last"))
	d.Arm(0)
	putsNot(t, p, nil, api.ErrDev)
	commits(t, p, nil, api.ErrDev)
}

func TestP7_3Claim(t *testing.T) {
	_, p := fresh(t, 10)
	for _, c := range []api.Span{span(0, 1), span(0, 2), span(9, 2), span(10, 1), span(-1, 1), span(1, 0), span(1, -1), span(1, 10), span(math.MaxInt, 1), span(1, math.MaxInt), span(math.MinInt, math.MinInt)} {
		claims(t, p, c.Start, c.Pages, false)
	}
	free(t, p, 1, 9)
	claims(t, p, 2, 3, true)
	free(t, p, 1, 1, 5, 5)
	claims(t, p, 2, 3, false)
	claims(t, p, 1, 2, false)
	claims(t, p, 4, 2, false)
	claims(t, p, 9, 1, true)
	free(t, p, 1, 1, 5, 4)
	p.Abort()
	free(t, p, 1, 1, 5, 4)
	puts(t, p, text(200, 1), span(5, 2))
	claims(t, p, 5, 1, false)
	commits(t, p, nil, api.OK)
	rooted(t, p, span(1, 1), 2)
	free(t, p, 7, 2)
	claims(t, p, 1, 1, false)
	drops(t, p, 2, 3, true)
	claims(t, p, 2, 1, false)
	commits(t, p, nil, api.OK)
	free(t, p, 1, 4, 8, 1)
	claims(t, p, 1, 4, true)
	free(t, p, 8, 1)
}

// Pages that were claimed are there behind an Abort, whenever that was.
func TestP7_3ClaimWithin(t *testing.T) {
	_, p := fresh(t, 10)
	puts(t, p, text(200, 1), span(1, 2))
	claims(t, p, 4, 2, true)
	p.Abort()
	free(t, p, 1, 3, 6, 4)
	drops(t, p, 4, 2, true)
	p.Abort()
	free(t, p, 1, 3, 6, 4)
	drops(t, p, 4, 2, true)
	commits(t, p, nil, api.OK)
	free(t, p, 2, 8)
}

func TestP7_3Abort(t *testing.T) {
	d, p := fresh(t, 12)
	p.Abort()
	free(t, p, 1, 11)
	puts(t, p, text(300, 1), span(1, 3))
	puts(t, p, text(200, 2), span(4, 2))
	p.Abort()
	free(t, p, 1, 11)
	puts(t, p, text(300, 3), span(1, 3))
	puts(t, p, text(200, 4), span(4, 2))
	commits(t, p, []byte("one"), api.OK)
	free(t, p, 7, 5)
	p.Abort()
	free(t, p, 7, 5)
	drops(t, p, 1, 3, true)
	p.Abort()
	free(t, p, 7, 5)
	drops(t, p, 1, 3, true)
	puts(t, p, text(130, 5), span(7, 2))
	puts(t, p, text(10, 5), span(9, 1))
	drops(t, p, 7, 1, true)
	drops(t, p, 9, 1, true)
	p.Abort()
	free(t, p, 7, 5)
	drops(t, p, 7, 1, false)
	gets(t, p, span(1, 3), text(300, 3))
	gets(t, p, span(4, 2), text(200, 4))
	rooted(t, p, span(6, 1), 2)
	p.Abort()
	p.Abort()
	commits(t, p, []byte("two"), api.OK)
	free(t, p, 6, 1, 8, 4)
	p.Abort()
	rooted(t, p, span(7, 1), 3)
	free(t, p, 6, 1, 8, 4)
	opened(t, d, []byte("two"))
	commits(t, p, text(700, 1), api.ErrSpace)
	p.Abort()
	free(t, p, 6, 1, 8, 4)
}

// ended asks for what each call answers of a Pager that is at an end.
func ended(t *testing.T, p *pager.Pager, root api.Span, epoch uint64) {
	t.Helper()
	was := slices.Collect(p.Free().Spans())
	for range 2 {
		commits(t, p, nil, api.ErrDev)
		commits(t, p, text(most+1, 1), api.ErrDev)
		commits(t, p, text(10000, 1), api.ErrDev)
		putsNot(t, p, nil, api.ErrDev)
		putsNot(t, p, text(most+1, 1), api.ErrDev)
		putsNot(t, p, text(10000, 1), api.ErrDev)
		getsNot(t, p, span(1, 1), 1, api.ErrDev)
		getsNot(t, p, span(1, 7), -1, api.ErrDev)
		for start := range 12 {
			drops(t, p, start, 1, false)
			claims(t, p, start, 1, false)
		}
		rooted(t, p, root, epoch)
	}
	if got := slices.Collect(p.Free().Spans()); !slices.Equal(got, was) {
		t.Fatalf("free: %v, not %v", got, was)
	}
}

func TestP7_3Dies(t *testing.T) {
	for n := range 16 {
		d, p := fresh(t, 12)
		puts(t, p, text(300, 1), span(1, 3))
		commits(t, p, []byte("one"), api.OK)
		d.Arm(n)
		s, e := p.Put(text(5, 1))
		if n < 4 {
			if e != api.ErrDev || s != (api.Span{}) {
				t.Fatalf("Put on a device that dies behind %d: %v, %d", n, s, e)
			}
		} else {
			drops(t, p, 1, 3, true)
			want := api.ErrDev
			if n >= 15 {
				want = api.OK
			}
			commits(t, p, text(125, 2), want)
		}
		if n >= 15 {
			rooted(t, p, span(6, 2), 3)
			free(t, p, 1, 4, 8, 4)
			continue
		}
		ended(t, p, span(4, 1), 2)
		p.Abort()
		free(t, p, 5, 7)
		d.Crash(api.Fate{Torn: -1})
		ended(t, p, span(4, 1), 2)
		opened(t, d, []byte("one"))
	}
}

// A device that is dead is none to a Get, but that isn't the Pager's end: nothing was to be changed.
func TestP7_3GetDoesNotEnd(t *testing.T) {
	d, p := fresh(t, 10)
	puts(t, p, text(100, 1), span(1, 1))
	commits(t, p, nil, api.OK)
	d.Arm(0)
	d.Flush()
	getsNot(t, p, span(1, 1), 100, api.ErrDev)
	getsNot(t, p, span(1, 2), 100, api.ErrRange)
	putsNot(t, p, text(most+1, 1), api.ErrLong)
	putsNot(t, p, text(124*9, 1), api.ErrSpace)
	commits(t, p, text(124*9, 1), api.ErrSpace)
	d.Crash(api.Fate{Torn: -1})
	gets(t, p, span(1, 1), text(100, 1))
	d.Fault(4, true)
	getsNot(t, p, span(1, 1), 100, api.ErrRead)
	d.Fault(4, false)
	commits(t, p, []byte("x"), api.OK)
}

func TestP7_4Nobody(t *testing.T) {
	for _, p := range []*pager.Pager{nil, {}} {
		for range 2 {
			ended(t, p, api.Span{}, 0)
			if p.Free() != nil {
				t.Fatal("there is a Free")
			}
			p.Abort()
		}
	}
	var zero pager.Pager
	zero.Abort()
	if zero.Free() != nil || zero.Root() != (api.Span{}) || zero.Epoch() != 0 || zero.Commit(nil) != api.ErrDev {
		t.Fatal("the zero one is something")
	}
}

func TestP7_4Free(t *testing.T) {
	_, p := fresh(t, 10)
	f := p.Free()
	if f.Count() != 9 || f.Largest() != 9 || !f.Has(span(1, 9)) {
		t.Fatal("not all is free")
	}
	if !f.Claim(span(1, 9)) {
		t.Fatal("Claim")
	}
	free(t, p, 1, 9)
	g := p.Free()
	puts(t, p, text(300, 1), span(1, 3))
	if g.Count() != 9 || f.Count() != 0 {
		t.Fatal("a copy changes with the Pager")
	}
	if h := p.Free(); !h.Give(span(1, 3)) || h.Give(span(0, 1)) || h.Give(span(10, 1)) {
		t.Fatal("pages 1 to 9 aren't those that there are")
	}
	free(t, p, 4, 6)
	commits(t, p, nil, api.OK)
	for range 2 {
		h := p.Free()
		h.Give(span(1, 4))
		h.Take(2)
	}
	p.Abort()
	free(t, p, 5, 5)
	drops(t, p, 1, 3, true)
	commits(t, p, nil, api.OK)
	free(t, p, 1, 4, 6, 4)
}
