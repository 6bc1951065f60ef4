package pager_test

import (
	"bytes"
	"slices"
	"testing"

	"apograph/api"
	"apograph/dev"
	"apograph/pager"
)

// plain is a Pager as it is meant, page by page: what is free, what an Abort and what a Commit would make of it.
type plain struct {
	free, was, dropped []bool
	root               api.Span
	epoch              uint64
}

func plainly(n int, root api.Span, epoch uint64) *plain {
	m := &plain{free: make([]bool, n), dropped: make([]bool, n), root: root, epoch: epoch}
	for i := 1; i < n; i++ {
		m.free[i] = !within(root, i)
	}
	m.was = slices.Clone(m.free)
	return m
}

func within(s api.Span, page int) bool {
	return page >= s.Start && page < s.Start+s.Pages
}

// each tells whether s has pages, all of them are there, and such.
func (m *plain) each(s api.Span, such func(i int) bool) bool {
	if s.Pages < 1 || s.Start < 1 || s.Start+s.Pages > len(m.free) {
		return false
	}
	for i := s.Start; i < s.Start+s.Pages; i++ {
		if !such(i) {
			return false
		}
	}
	return true
}

func (m *plain) take(n int) (api.Span, bool) {
	for start := range m.free {
		s := api.Span{Start: start, Pages: n}
		if m.each(s, func(i int) bool { return m.free[i] }) {
			for i := start; i < start+n; i++ {
				m.free[i] = false
			}
			return s, true
		}
	}
	return api.Span{}, false
}

func (m *plain) claim(s api.Span) bool {
	is := m.each(s, func(i int) bool { return m.free[i] })
	for i := s.Start; is && i < s.Start+s.Pages; i++ {
		m.free[i], m.was[i] = false, false
	}
	return is
}

func (m *plain) drop(s api.Span) bool {
	is := m.each(s, func(i int) bool { return !m.free[i] && !within(m.root, i) && !m.dropped[i] })
	for i := s.Start; is && i < s.Start+s.Pages; i++ {
		m.dropped[i] = true
	}
	return is
}

func (m *plain) commit(n int) bool {
	s, is := m.take(n)
	if !is {
		return false
	}
	for i := range m.free {
		m.free[i] = m.free[i] || m.dropped[i] || within(m.root, i)
	}
	m.root, m.epoch = s, m.epoch+1
	m.was = slices.Clone(m.free)
	clear(m.dropped)
	return true
}

func (m *plain) abort() {
	copy(m.free, m.was)
	clear(m.dropped)
}

// alike holds a Pager against what is meant.
func alike(t *testing.T, p *pager.Pager, m *plain) {
	t.Helper()
	rooted(t, p, m.root, m.epoch)
	f := p.Free()
	for i := range len(m.free) + 2 {
		want := i < len(m.free) && m.free[i]
		if f.Has(api.Span{Start: i, Pages: 1}) != want {
			t.Fatalf("page %d: not free %v", i, want)
		}
	}
}

// moves does what the bytes say, three of them a move, on a device of n pages.
func moves(t *testing.T, n int, l []byte) {
	d := formatted(t, 4*n)
	p := opened(t, d, nil)
	m := plainly(n, api.Span{}, 1)
	var root []byte
	for i := 0; i+3 <= len(l); i += 3 {
		kind, a, b := l[i]%6, int(l[i+1]), int(l[i+2])
		s := api.Span{Start: a%(n+3) - 1, Pages: b%6 - 1}
		body := text(a%4*124+b%125, i)
		switch kind {
		case 0:
			got, e := p.Put(body)
			want, is := m.take(pager.Need(len(body)))
			if got != want || is != (e == api.OK) || !is && e != api.ErrSpace {
				t.Fatalf("Put of %d bytes: %v, %d, not %v", len(body), got, e, want)
			}
			if is {
				gets(t, p, got, body)
			}
		case 1:
			if got, want := p.Claim(s), m.claim(s); got != want {
				t.Fatalf("Claim(%v): %v", s, got)
			}
		case 2:
			if got, want := p.Drop(s), m.drop(s); got != want {
				t.Fatalf("Drop(%v): %v", s, got)
			}
		case 3:
			e := p.Commit(body)
			is := m.commit(pager.Need(len(body)))
			if is != (e == api.OK) || !is && e != api.ErrSpace {
				t.Fatalf("Commit of %d bytes: %d", len(body), e)
			}
			if is {
				root = body
			}
		case 4:
			p.Abort()
			m.abort()
		case 5:
			p, root = strike(t, d, p, root, body, a, b)
			m = plainly(n, p.Root(), p.Epoch())
		}
		alike(t, p, m)
	}
}

// strike lets the device die within a transaction, and crash; it is what is opened then.
func strike(t *testing.T, d *dev.Dev, p *pager.Pager, root, next []byte, a, b int) (*pager.Pager, []byte) {
	t.Helper()
	d.Arm(a % 20)
	_, _ = p.Put(next)
	e := p.Commit(next)
	keep := make([]bool, d.Cached())
	for i := range keep {
		keep[i] = (b>>(i%8))&1 == 1
	}
	d.Crash(api.Fate{Keep: keep, Torn: b%20 - 1, Bytes: a % 33})
	q, got, oe := pager.Open(d)
	may := e != api.OK && bytes.Equal(got, root) || e == api.OK && bytes.Equal(got, next) || e == api.ErrDev && bytes.Equal(got, next)
	if oe != api.OK || !may {
		t.Fatalf("Open behind a crash (Commit: %d): %d, %d bytes", e, oe, len(got))
	}
	return q, got
}

func TestP7_3Moves(t *testing.T) {
	x := uint32(1)
	for n := 2; n < 14; n++ {
		for range 40 {
			l := make([]byte, 3*60)
			for i := range l {
				x = x*1664525 + 1013904223
				l[i] = byte(x >> 24)
			}
			moves(t, n, l)
		}
	}
}

func FuzzMoves(f *testing.F) {
	f.Add(byte(10), []byte{0, 1, 1, 3, 1, 1, 2, 2, 2, 4, 0, 0, 5, 6, 7})
	f.Add(byte(3), []byte{3, 0, 0, 3, 0, 0, 5, 3, 255, 3, 0, 0})
	f.Fuzz(func(t *testing.T, n byte, l []byte) {
		if len(l) < 600 {
			moves(t, int(n%15)+2, l)
		}
	})
}
