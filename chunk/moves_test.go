package chunk_test

import (
	"bytes"
	"maps"
	"slices"
	"testing"

	"apograph/api"
	"apograph/chunk"
	"apograph/dev"
	"apograph/pager"
)

// piece is a chunk as it is meant.
type piece struct {
	text string
	at   api.Span
}

// plain is a Store as it is meant, page by page: free are those pages that nobody has, goes those that are free behind a Commit.
type plain struct {
	pages  []byte // '.' free, '#' taken, '-' goes
	chunks map[uint64]piece
	next   uint64
	state  string
	root   api.Span
	was    *plain
}

func plainly(n int) *plain {
	m := &plain{pages: append([]byte("#"), bytes.Repeat([]byte("."), n-1)...), chunks: map[uint64]piece{}, next: 1}
	m.begin()
	return m
}

// begin lays by what an Abort goes back to.
func (m *plain) begin() {
	m.was = nil
	was := *m
	was.pages, was.chunks = slices.Clone(m.pages), maps.Clone(m.chunks)
	m.was = &was
}

func (m *plain) abort() {
	*m = *m.was
	m.begin()
}

func (m *plain) mark(s api.Span, as byte) {
	for i := range s.Pages {
		m.pages[s.Start+i] = as
	}
}

func (m *plain) take(size int) (api.Span, bool) {
	n := need(size)
	at := bytes.Index(m.pages, bytes.Repeat([]byte("."), n))
	if at < 0 {
		return api.Span{}, false
	}
	s := api.Span{Start: at, Pages: n}
	m.mark(s, '#')
	return s, true
}

func (m *plain) find(b []byte) uint64 {
	for id, c := range m.chunks {
		if c.text == string(b) {
			return id
		}
	}
	return 0
}

func (m *plain) put(b []byte) (uint64, api.Errno) {
	if len(b) > most {
		return 0, api.ErrLong
	}
	if id := m.find(b); id != 0 {
		return id, api.OK
	}
	s, is := m.take(len(b))
	if !is {
		return 0, api.ErrSpace
	}
	m.chunks[m.next] = piece{string(b), s}
	m.next++
	return m.next - 1, api.OK
}

func (m *plain) keep(has func(uint64) bool) int {
	n := 0
	for _, id := range m.ids() {
		if !has(id) {
			m.mark(m.chunks[id].at, '-')
			delete(m.chunks, id)
			n++
		}
	}
	return n
}

func (m *plain) ids() []uint64 {
	return slices.Sorted(maps.Keys(m.chunks))
}

func (m *plain) record(state []byte) []byte {
	var l []uint64
	ahead := uint64(0)
	for _, id := range m.ids() {
		l = append(l, id-ahead, uint64(m.chunks[id].at.Start), uint64(len(m.chunks[id].text)))
		ahead = id
	}
	return record(m.next, string(state), l...)
}

func (m *plain) commit(state []byte) api.Errno {
	root := m.record(state)
	if len(root) > most {
		m.abort()
		return api.ErrLong
	}
	s, is := m.take(len(root))
	if !is {
		m.abort()
		return api.ErrSpace
	}
	m.mark(m.root, '.')
	m.pages = bytes.ReplaceAll(m.pages, []byte("-"), []byte("."))
	m.state, m.root = string(state), s
	m.begin()
	return api.OK
}

// alike holds a Store against what is meant.
func (m *plain) alike(t *testing.T, s *chunk.Store) {
	t.Helper()
	ids(t, s, m.ids()...)
	var rows []int
	for _, id := range m.ids() {
		c := m.chunks[id]
		rows = append(rows, c.at.Start, c.at.Pages)
		gets(t, s, id, []byte(c.text))
		finds(t, s, []byte(c.text), id)
	}
	stands(t, s, rows...)
	stated(t, s, []byte(m.state))
	rooted(t, s, m.root.Start, m.root.Pages)
	free(t, s, bytes.Count(m.pages, []byte(".")))
	getsNot(t, s, m.next, api.ErrNone)
}

// body is one of few texts, so that many are put more than once; among them are some of one sum.
func body(t *testing.T, a, b byte) []byte {
	if a%4 == 0 {
		l := twins(t)
		return l[int(b)%len(l)]
	}
	return text(int(a)%3*124+int(b)%7*20, int(b)%2)
}

// moves does what the bytes say, three of them a move, on a device of n pages.
func moves(t *testing.T, n int, l []byte) {
	d := dev.New(4 * n)
	s := opens(t, d)
	m := plainly(n)
	for ; len(l) >= 3; l = l[3:] {
		a, b := l[1], l[2]
		has := func(id uint64) bool { return (a>>(id%8))&1 == 1 || id%5 == uint64(b%5) }
		switch l[0] % 8 {
		case 0, 1, 2:
			id, e := s.Put(body(t, a, b))
			if want, f := m.put(body(t, a, b)); id != want || e != f {
				t.Fatalf("Put: %d, %d, not %d, %d", id, e, want, f)
			}
		case 3:
			if got, want := s.Keep(has), m.keep(has); got != want {
				t.Fatalf("Keep: %d, not %d", got, want)
			}
		case 4, 5:
			commits(t, s, text(int(a), int(b)), m.commit(text(int(a), int(b))))
			if _, root, e := pager.Open(d); m.root.Pages > 0 && (e != api.OK || !bytes.Equal(root, m.was.record([]byte(m.state)))) {
				t.Fatalf("the root: %d, %v", e, root)
			}
		case 6:
			s.Abort()
			m.abort()
		case 7:
			s, m = strike(t, d, s, m, a, b)
		}
		m.alike(t, s)
	}
	s.Abort()
	m.abort()
	m.alike(t, opens(t, d))
}

// strike lets the device die within a transaction, and crash; it is what is opened then, and what is meant by it.
func strike(t *testing.T, d *dev.Dev, s *chunk.Store, m *plain, a, b byte) (*chunk.Store, *plain) {
	t.Helper()
	d.Arm(int(a % 30))
	then := append([]byte("then"), a, b)
	_, e := s.Put(then)
	if _, f := m.put(then); e == api.OK && f != api.OK || e == api.ErrSpace && f != e {
		t.Fatalf("Put: %d, not %d", e, f)
	}
	before := *m.was
	before.begin()
	e = s.Commit(then)
	f := m.commit(then)
	if e != f && e != api.ErrDev {
		t.Fatalf("Commit: %d, not %d", e, f)
	}
	keep := make([]bool, d.Cached())
	for i := range keep {
		keep[i] = (b>>(i%8))&1 == 1
	}
	d.Crash(api.Fate{Keep: keep, Torn: int(b%20) - 1, Bytes: int(a % 33)})
	x := opens(t, d)
	if e == api.OK || f == api.OK && bytes.Equal(x.State(), then) && x.Root() == m.root {
		return x, m
	}
	return x, &before
}

func TestP8_2Moves(t *testing.T) {
	x := uint32(1)
	for n := 2; n < 20; n++ {
		for range 12 {
			l := make([]byte, 3*60)
			for i := range l {
				x = x*1664525 + 1013904223
				l[i] = byte(x >> 24)
			}
			moves(t, n, l)
		}
	}
}

func FuzzMoves(f *testing.F) {
	f.Add(byte(10), []byte{0, 1, 1, 4, 1, 1, 3, 2, 2, 6, 0, 0, 7, 6, 7})
	f.Add(byte(3), []byte{0, 0, 0, 0, 0, 1, 4, 0, 0, 7, 3, 255, 5, 0, 0})
	f.Fuzz(func(t *testing.T, n byte, l []byte) {
		if len(l) < 600 {
			moves(t, int(n%30)+2, l)
		}
	})
}
