package chunk_test

import (
	"bytes"
	"math"
	"slices"
	"testing"

	"apograph/api"
	"apograph/chunk"
	"apograph/dev"
	"apograph/fnv"
)

const most = 131072

// text is size bytes that aren't 0, and unlike from seed to seed.
func text(size, seed int) []byte {
	b := make([]byte, size)
	for i := range b {
		b[i] = byte(1 + (i*7+i/124*31+seed*13+seed/255*3*i)%255)
	}
	return b
}

func need(size int) int {
	return max(1, (size+123)/124)
}

// spans are rows of pages, from pairs of a start and a length.
func spans(l ...int) []api.Span {
	var all []api.Span
	for i := 0; i < len(l); i += 2 {
		all = append(all, api.Span{Start: l[i], Pages: l[i+1]})
	}
	return all
}

func opens(t *testing.T, d *dev.Dev) *chunk.Store {
	t.Helper()
	s, e := chunk.Open(d)
	if e != api.OK || s == nil {
		t.Fatalf("Open: %d", e)
	}
	return s
}

func opensNot(t *testing.T, d *dev.Dev, want api.Errno) {
	t.Helper()
	if s, e := chunk.Open(d); s != nil || e != want {
		t.Fatalf("Open: %v, %d, not %d", s, e, want)
	}
}

// fresh is a Store on a new device of so many pages.
func fresh(t *testing.T, pages int) (*dev.Dev, *chunk.Store) {
	t.Helper()
	d := dev.New(4 * pages)
	return d, opens(t, d)
}

// puts asks for the number of a text, and that it is there from then on.
func puts(t *testing.T, s *chunk.Store, b []byte, want uint64) {
	t.Helper()
	was := bytes.Clone(b)
	if id, e := s.Put(b); id != want || e != api.OK {
		t.Fatalf("Put of %d bytes: %d, %d, not %d", len(b), id, e, want)
	}
	if !bytes.Equal(b, was) {
		t.Fatalf("Put of %d bytes changed them", len(b))
	}
	finds(t, s, b, want)
	gets(t, s, want, b)
}

func putsNot(t *testing.T, s *chunk.Store, b []byte, want api.Errno) {
	t.Helper()
	if id, e := s.Put(b); id != 0 || e != want {
		t.Fatalf("Put of %d bytes: %d, %d, not %d", len(b), id, e, want)
	}
}

// finds asks for the number of a text, 0 if there is none.
func finds(t *testing.T, s *chunk.Store, b []byte, want uint64) {
	t.Helper()
	if id, is := s.Find(b); id != want || is != (want != 0) {
		t.Fatalf("Find of %d bytes: %d, %v, not %d", len(b), id, is, want)
	}
}

func gets(t *testing.T, s *chunk.Store, id uint64, want []byte) {
	t.Helper()
	if b, e := s.Get(id); e != api.OK || !bytes.Equal(b, want) {
		t.Fatalf("Get(%d): %d, %d bytes, not the %d", id, e, len(b), len(want))
	}
}

func getsNot(t *testing.T, s *chunk.Store, id uint64, want api.Errno) {
	t.Helper()
	if b, e := s.Get(id); e != want || len(b) != 0 {
		t.Fatalf("Get(%d): %d, %d bytes, not %d", id, e, len(b), want)
	}
}

// keeps keeps just these chunks, and asks how many go.
func keeps(t *testing.T, s *chunk.Store, want int, l ...uint64) {
	t.Helper()
	if n := s.Keep(func(id uint64) bool { return slices.Contains(l, id) }); n != want {
		t.Fatalf("Keep of %v: %d, not %d", l, n, want)
	}
}

func commits(t *testing.T, s *chunk.Store, state []byte, want api.Errno) {
	t.Helper()
	was := bytes.Clone(state)
	if e := s.Commit(state); e != want {
		t.Fatalf("Commit of %d bytes: %d, not %d", len(state), e, want)
	}
	if !bytes.Equal(state, was) {
		t.Fatalf("Commit of %d bytes changed them", len(state))
	}
}

func ids(t *testing.T, s *chunk.Store, want ...uint64) {
	t.Helper()
	if got := slices.Collect(s.Ids()); !slices.Equal(got, want) {
		t.Fatalf("Ids: %v, not %v", got, want)
	}
}

func stands(t *testing.T, s *chunk.Store, want ...int) {
	t.Helper()
	if got := s.Spans(); !slices.Equal(got, spans(want...)) {
		t.Fatalf("Spans: %v, not %v", got, spans(want...))
	}
}

func free(t *testing.T, s *chunk.Store, want int) {
	t.Helper()
	if got := s.Free(); got != want {
		t.Fatalf("Free: %d, not %d", got, want)
	}
}

func rooted(t *testing.T, s *chunk.Store, start, pages int) {
	t.Helper()
	if got := s.Root(); got != (api.Span{Start: start, Pages: pages}) {
		t.Fatalf("Root: %v, not %d, %d", got, start, pages)
	}
}

func stated(t *testing.T, s *chunk.Store, want []byte) {
	t.Helper()
	if got := s.State(); !bytes.Equal(got, want) {
		t.Fatalf("State: %d bytes, not the %d", len(got), len(want))
	}
}

// nexts asks for the next number, of a Store of which nothing is changed in its transaction: it is aborted behind that.
func nexts(t *testing.T, s *chunk.Store, want uint64) {
	t.Helper()
	puts(t, s, []byte("what nobody put so far"), want)
	s.Abort()
}

func TestExamples(t *testing.T) {
	_, s := fresh(t, 10)
	puts(t, s, []byte("a"), 1)
	puts(t, s, []byte("b"), 2)
	puts(t, s, []byte("a"), 1)
}

func TestP8_2Put(t *testing.T) {
	_, s := fresh(t, 20)
	puts(t, s, nil, 1)
	puts(t, s, []byte("x"), 2)
	puts(t, s, []byte{}, 1)
	puts(t, s, []byte{0}, 3)
	puts(t, s, []byte{0, 0}, 4)
	puts(t, s, text(124, 1), 5)
	puts(t, s, text(125, 1), 6)
	puts(t, s, text(248, 1), 7)
	puts(t, s, text(249, 1), 8)
	ids(t, s, 1, 2, 3, 4, 5, 6, 7, 8)
	stands(t, s, 1, 1, 2, 1, 3, 1, 4, 1, 5, 1, 6, 2, 8, 2, 10, 3)
	free(t, s, 7)
	for i, b := range [][]byte{nil, []byte("x"), {0}, {0, 0}, text(124, 1), text(125, 1), text(248, 1), text(249, 1)} {
		puts(t, s, b, uint64(i+1))
	}
	free(t, s, 7)
}

func TestP8_2PutLong(t *testing.T) {
	d, s := fresh(t, 1062)
	for _, size := range []int{most + 1, most + 2, 2 * most} {
		putsNot(t, s, make([]byte, size), api.ErrLong)
		finds(t, s, make([]byte, size), 0)
	}
	ids(t, s)
	free(t, s, 1061)
	puts(t, s, text(most, 1), 1)
	puts(t, s, text(most, 1), 1)
	putsNot(t, s, text(most, 2), api.ErrSpace)
	putsNot(t, s, text(most+1, 2), api.ErrLong)
	puts(t, s, text(3*124-1, 3), 2)
	putsNot(t, s, text(most+1, 2), api.ErrLong)
	commits(t, s, nil, api.ErrSpace)
	puts(t, s, text(most, 1), 1)
	commits(t, s, nil, api.OK)
	gets(t, opens(t, d), 1, text(most, 1))
}

// What just fits is put, what doesn't isn't, and takes neither a page nor a number; what is there already takes no room.
func TestP8_2PutSpace(t *testing.T) {
	d, s := fresh(t, 10)
	putsNot(t, s, text(9*124+1, 1), api.ErrSpace)
	puts(t, s, text(9*124, 1), 1)
	free(t, s, 0)
	cached := d.Cached()
	putsNot(t, s, nil, api.ErrSpace)
	putsNot(t, s, []byte("x"), api.ErrSpace)
	putsNot(t, s, text(most, 1), api.ErrSpace)
	puts(t, s, text(9*124, 1), 1)
	if d.Cached() != cached {
		t.Fatal("a Put without room wrote")
	}
	ids(t, s, 1)
	finds(t, s, nil, 0)
	s.Abort()
	puts(t, s, text(4*124, 1), 1)
	puts(t, s, text(4*124, 2), 2)
	putsNot(t, s, text(4*124, 3), api.ErrSpace)
	puts(t, s, text(4*124, 2), 2)
	puts(t, s, []byte("x"), 3)
	free(t, s, 0)
}

// Room in several rows is none.
func TestP8_2PutRows(t *testing.T) {
	_, s := fresh(t, 9)
	for i := range 7 {
		puts(t, s, text(5, i), uint64(i+1))
	}
	commits(t, s, nil, api.OK)
	rooted(t, s, 8, 1)
	keeps(t, s, 3, 2, 4, 6, 7)
	commits(t, s, nil, api.ErrSpace)
	free(t, s, 0)
	keeps(t, s, 0, 1, 2, 3, 4, 5, 6, 7)
	ids(t, s, 1, 2, 3, 4, 5, 6, 7)
	_, s = fresh(t, 10)
	for i := range 7 {
		puts(t, s, text(5, i), uint64(i+1))
	}
	commits(t, s, nil, api.OK)
	keeps(t, s, 3, 2, 4, 6, 7)
	commits(t, s, nil, api.OK)
	free(t, s, 4)
	putsNot(t, s, text(200, 1), api.ErrSpace)
	puts(t, s, text(124, 1), 8)
	stands(t, s, 2, 1, 4, 1, 6, 1, 7, 1, 1, 1)
}

func TestP8_2Again(t *testing.T) {
	d, s := fresh(t, 30)
	a, b := text(200, 1), text(200, 2)
	puts(t, s, a, 1)
	s.Abort()
	finds(t, s, a, 0)
	getsNot(t, s, 1, api.ErrNone)
	puts(t, s, b, 1)
	puts(t, s, a, 2)
	commits(t, s, nil, api.OK)
	puts(t, s, a, 2)
	puts(t, s, b, 1)
	s.Abort()
	puts(t, s, a, 2)
	keeps(t, s, 1, 1)
	finds(t, s, a, 0)
	getsNot(t, s, 2, api.ErrNone)
	puts(t, s, a, 3)
	puts(t, s, a, 3)
	ids(t, s, 1, 3)
	s.Abort()
	ids(t, s, 1, 2)
	puts(t, s, a, 2)
	keeps(t, s, 1, 1)
	commits(t, s, nil, api.OK)
	finds(t, s, a, 0)
	getsNot(t, s, 2, api.ErrNone)
	puts(t, s, a, 3)
	keeps(t, s, 1, 1)
	puts(t, s, a, 4)
	keeps(t, s, 1, 1)
	puts(t, s, a, 5)
	commits(t, s, nil, api.OK)
	ids(t, s, 1, 5)
	s = opens(t, d)
	ids(t, s, 1, 5)
	puts(t, s, a, 5)
	puts(t, s, b, 1)
	nexts(t, s, 6)
}

// twins are four texts of one size and one sum, and behind them some of unlike sizes whose sums are 0: a byte 0 behind such a one leaves its sum 0.
func twins(t *testing.T) [][]byte {
	t.Helper()
	var l [][]byte
	for _, low := range []string{"oF?[A1%?VHr$", `l6?M5-)?\=-5`} {
		for _, high := range []string{"G!/t5.&6G0YV", "F;/h-(X0oGZg"} {
			l = append(l, []byte(low+high))
		}
	}
	zero := []byte{0xd5, 0x6b, 0xb9, 0x53, 0x42, 0x87, 0x08, 0x36}
	for range 4 {
		l = append(l, bytes.Clone(zero))
		zero = append(zero, 0)
	}
	for i, b := range l {
		if fnv.Sum(string(b)) != fnv.Sum(string(l[i/4*4])) {
			t.Fatalf("the sum of %q is another one", b)
		}
	}
	return l
}

func TestP8_2Twins(t *testing.T) {
	l := twins(t)
	d, s := fresh(t, 20)
	for i, b := range l {
		finds(t, s, b, 0)
		puts(t, s, b, uint64(i+1))
		puts(t, s, b, uint64(i+1))
	}
	commits(t, s, nil, api.OK)
	for _, x := range []*chunk.Store{s, opens(t, d)} {
		ids(t, x, 1, 2, 3, 4, 5, 6, 7, 8)
		for i, b := range l {
			puts(t, x, b, uint64(i+1))
			gets(t, x, uint64(i+1), b)
		}
	}
	keeps(t, s, 4, 1, 3, 6, 8)
	for i, b := range l {
		want := uint64(i + 1)
		if !slices.Contains([]uint64{1, 3, 6, 8}, want) {
			want = 0
		}
		finds(t, s, b, want)
	}
	puts(t, s, l[1], 9)
	puts(t, s, l[4], 10)
	s.Abort()
	for i, b := range l {
		puts(t, s, b, uint64(i+1))
	}
	for i := range l {
		keeps(t, s, 1, []uint64{1, 2, 3, 4, 5, 6, 7, 8}[i+1:]...)
		finds(t, s, l[i], 0)
		for j := i + 1; j < len(l); j++ {
			puts(t, s, l[j], uint64(j+1))
		}
	}
	ids(t, s)
}

func TestP8_2Get(t *testing.T) {
	d, s := fresh(t, 20)
	absent := []uint64{0, 1, 2, 3, 4, math.MaxInt64, 1 << 63, math.MaxUint64 - 1, math.MaxUint64}
	for _, id := range absent {
		getsNot(t, s, id, api.ErrNone)
	}
	puts(t, s, []byte("a"), 1)
	puts(t, s, nil, 2)
	puts(t, s, text(500, 1), 3)
	for _, id := range absent[4:] {
		getsNot(t, s, id, api.ErrNone)
	}
	getsNot(t, s, 0, api.ErrNone)
	commits(t, s, nil, api.OK)
	keeps(t, s, 1, 1, 3)
	getsNot(t, s, 2, api.ErrNone)
	gets(t, s, 3, text(500, 1))
	commits(t, s, nil, api.OK)
	getsNot(t, s, 2, api.ErrNone)
	x := opens(t, d)
	getsNot(t, x, 2, api.ErrNone)
	gets(t, x, 1, []byte("a"))
	gets(t, x, 3, text(500, 1))
	getsNot(t, x, 4, api.ErrNone)
}

// What can't be read is told by the pager's errors, and isn't the Store's end.
func TestP8_2Unread(t *testing.T) {
	d, s := fresh(t, 20)
	puts(t, s, text(200, 1), 1)
	puts(t, s, text(200, 2), 2)
	commits(t, s, nil, api.OK)
	d.Fault(5, true)
	getsNot(t, s, 1, api.ErrRead)
	putsNot(t, s, text(200, 1), api.ErrRead)
	finds(t, s, text(200, 1), 0)
	ids(t, s, 1, 2)
	puts(t, s, text(200, 2), 2)
	puts(t, s, text(200, 3), 3)
	d.Fault(5, false)
	puts(t, s, text(200, 1), 1)
	commits(t, s, nil, api.OK)
	b, _ := d.Read(5)
	b[3] ^= 1
	d.Write(5, b)
	getsNot(t, s, 1, api.ErrSum)
	putsNot(t, s, text(200, 1), api.ErrSum)
	b[3] ^= 1
	d.Write(5, b)
	puts(t, s, text(200, 1), 1)
	d.Arm(0)
	d.Flush()
	getsNot(t, s, 1, api.ErrDev)
	getsNot(t, s, 9, api.ErrNone)
	putsNot(t, s, text(200, 1), api.ErrDev)
	putsNot(t, s, text(most+1, 1), api.ErrLong)
	putsNot(t, s, text(20*124, 1), api.ErrSpace)
	finds(t, s, text(200, 1), 0)
	d.Crash(api.Fate{Torn: -1})
	puts(t, s, text(200, 1), 1)
	commits(t, s, nil, api.OK)
}

// Where a text of the same sum can't be read, the one that is meant is found all the same; where none is, nobody can tell.
func TestP8_5UnreadTwins(t *testing.T) {
	l := twins(t)[:4]
	d, s := fresh(t, 20)
	for i, b := range l[:3] {
		puts(t, s, b, uint64(i+1))
	}
	for bad := range 3 {
		d.Fault(4*(bad+1), true)
		for i, b := range l {
			switch {
			case i == bad:
				putsNot(t, s, b, api.ErrRead)
			case i < 3:
				puts(t, s, b, uint64(i+1))
			default:
				putsNot(t, s, b, api.ErrRead)
				finds(t, s, b, 0)
			}
		}
		d.Fault(4*(bad+1), false)
	}
	ids(t, s, 1, 2, 3)
	puts(t, s, l[3], 4)
}

// A text of another size can't be the one that is meant, whether it can be read or not.
func TestP8_5UnreadSizes(t *testing.T) {
	l := twins(t)[4:]
	d, s := fresh(t, 20)
	puts(t, s, l[0], 1)
	puts(t, s, l[2], 2)
	d.Fault(4, true)
	d.Fault(8, true)
	puts(t, s, l[1], 3)
	puts(t, s, l[3], 4)
	finds(t, s, l[2], 0)
	putsNot(t, s, l[2], api.ErrRead)
}

// Nothing that is handed in or out is what the Store keeps.
func TestP2Memory(t *testing.T) {
	d, s := fresh(t, 20)
	whole := text(300, 1)
	b := whole[:200]
	puts(t, s, b, 1)
	if !bytes.Equal(whole, text(300, 1)) {
		t.Fatal("Put wrote behind a text's end")
	}
	clear(whole)
	gets(t, s, 1, text(200, 1))
	state := append(make([]byte, 0, 90), "a state"...)
	commits(t, s, state, api.OK)
	clear(state)
	for range 2 {
		got := s.State()
		if string(got) != "a state" {
			t.Fatalf("State: %q", got)
		}
		clear(got)
		got, _ = s.Get(1)
		if !bytes.Equal(got, text(200, 1)) {
			t.Fatal("Get tells what was changed")
		}
		clear(got[:cap(got)])
		rows := s.Spans()
		if !slices.Equal(rows, spans(1, 2)) {
			t.Fatalf("Spans: %v", rows)
		}
		clear(rows[:cap(rows)])
	}
	stated(t, opens(t, d), []byte("a state"))
	finds(t, s, text(200, 1), 1)
}

func TestP8_2Keep(t *testing.T) {
	d, s := fresh(t, 20)
	for i := range 6 {
		puts(t, s, text(20, i), uint64(i+1))
	}
	if s.Keep(nil) != 0 {
		t.Fatal("Keep of nil let chunks go")
	}
	keeps(t, s, 0, 1, 2, 3, 4, 5, 6)
	ids(t, s, 1, 2, 3, 4, 5, 6)
	commits(t, s, nil, api.OK)
	for i := range 3 {
		puts(t, s, text(20, i+6), uint64(i+7))
	}
	keeps(t, s, 4, 1, 2, 5, 7, 9)
	ids(t, s, 1, 2, 5, 7, 9)
	keeps(t, s, 0, 1, 2, 5, 7, 9)
	keeps(t, s, 2, 2, 3, 5, 6, 7, 8)
	ids(t, s, 2, 5, 7)
	for i := range 9 {
		want := uint64(i + 1)
		if want != 2 && want != 5 && want != 7 {
			getsNot(t, s, want, api.ErrNone)
			want = 0
		}
		finds(t, s, text(20, i), want)
	}
	free(t, s, 9)
	commits(t, s, nil, api.OK)
	free(t, s, 15)
	ids(t, opens(t, d), 2, 5, 7)
	keeps(t, s, 3)
	ids(t, s)
	stands(t, s)
	keeps(t, s, 0)
	commits(t, s, nil, api.OK)
	free(t, s, 18)
	nexts(t, s, 10)
}

// Each is asked once, rising, and finds the Store as it was, whatever was told of those ahead of it.
func TestP8_2KeepAsks(t *testing.T) {
	_, s := fresh(t, 20)
	for i := range 5 {
		puts(t, s, text(20, i), uint64(i+1))
	}
	commits(t, s, nil, api.OK)
	keeps(t, s, 1, 1, 3, 4, 5)
	puts(t, s, text(20, 7), 6)
	puts(t, s, text(20, 8), 7)
	var asked []uint64
	n := s.Keep(func(id uint64) bool {
		asked = append(asked, id)
		ids(t, s, 1, 3, 4, 5, 6, 7)
		getsNot(t, s, 2, api.ErrNone)
		if _, e := s.Get(1); e != api.OK {
			t.Fatalf("Get(1): %d", e)
		}
		return id%2 == 1 && id != 1
	})
	if n != 3 || !slices.Equal(asked, []uint64{1, 3, 4, 5, 6, 7}) {
		t.Fatalf("Keep: %d, asked %v", n, asked)
	}
	ids(t, s, 3, 5, 7)
	_, empty := fresh(t, 4)
	if empty.Keep(func(id uint64) bool { t.Fatalf("asked for %d", id); return false }) != 0 {
		t.Fatal("chunks of an empty Store go")
	}
}

// Whoever is asked may work on the Store, too.
func TestP8_2KeepWithin(t *testing.T) {
	d, s := fresh(t, 30)
	for i := range 4 {
		puts(t, s, text(20, i), uint64(i+1))
	}
	commits(t, s, nil, api.OK)
	n := s.Keep(func(id uint64) bool {
		puts(t, s, text(20, 10+int(id)), 4+id)
		return id > 2
	})
	if n != 2 {
		t.Fatalf("Keep: %d", n)
	}
	ids(t, s, 3, 4, 5, 6, 7, 8)
	s.Abort()
	ids(t, s, 1, 2, 3, 4)
	if n := s.Keep(func(id uint64) bool { return id != 4 && s.Keep(func(other uint64) bool { return other != 1 }) < 9 }); n != 1 {
		t.Fatalf("Keep within Keep: %d", n)
	}
	ids(t, s, 2, 3)
	if n := s.Keep(func(uint64) bool { s.Abort(); return false }); n != 2 {
		t.Fatalf("Keep with an Abort within: %d", n)
	}
	ids(t, s, 1, 4)
	s.Abort()
	ids(t, s, 1, 2, 3, 4)
	n = s.Keep(func(id uint64) bool {
		if id == 4 {
			keeps(t, s, 2, 3, 4)
		}
		return id == 4
	})
	if n != 1 {
		t.Fatalf("Keep of three, two of which went within: %d", n)
	}
	ids(t, s, 4)
	s.Abort()
	ids(t, s, 1, 2, 3, 4)
	func() {
		defer func() { _ = recover() }()
		s.Keep(func(id uint64) bool {
			if id == 3 {
				panic("whoever is asked")
			}
			return false
		})
	}()
	ids(t, s, 1, 2, 3, 4)
	free(t, s, 24)
	n = s.Keep(func(id uint64) bool {
		if id == 4 {
			d.Arm(0)
			commits(t, s, nil, api.ErrDev)
		}
		return false
	})
	if n != 0 {
		t.Fatalf("Keep of a Store that came to its end within: %d", n)
	}
	none(t, s)
}

func TestP8_3Commit(t *testing.T) {
	d, s := fresh(t, 20)
	stated(t, s, nil)
	commits(t, s, nil, api.OK)
	rooted(t, s, 1, 1)
	stated(t, s, nil)
	free(t, s, 18)
	nexts(t, s, 1)
	commits(t, s, []byte("one"), api.OK)
	rooted(t, s, 2, 1)
	free(t, s, 18)
	nexts(t, s, 1)
	puts(t, s, text(200, 1), 1)
	puts(t, s, []byte("x"), 2)
	stands(t, s, 3, 2, 1, 1)
	free(t, s, 15)
	stated(t, s, []byte("one"))
	ids(t, opens(t, d))
	commits(t, s, []byte("two"), api.OK)
	rooted(t, s, 5, 1)
	stated(t, s, []byte("two"))
	free(t, s, 15)
	nexts(t, s, 3)
	for range 3 {
		commits(t, s, []byte("two"), api.OK)
		ids(t, s, 1, 2)
		stands(t, s, 3, 2, 1, 1)
		free(t, s, 15)
		nexts(t, s, 3)
	}
	keeps(t, s, 1, 2)
	puts(t, s, []byte("y"), 3)
	commits(t, s, text(300, 3), api.OK)
	ids(t, s, 2, 3)
	stated(t, s, text(300, 3))
	free(t, s, 14)
	nexts(t, s, 4)
	x := opens(t, d)
	ids(t, x, 2, 3)
	gets(t, x, 2, []byte("x"))
	gets(t, x, 3, []byte("y"))
	stated(t, x, text(300, 3))
	free(t, x, 14)
	nexts(t, x, 4)
	commits(t, s, []byte{}, api.OK)
	stated(t, s, nil)
	stated(t, opens(t, d), nil)
}

// A number that was given and let go in one transaction isn't given again behind its Commit.
func TestP8_3Numbers(t *testing.T) {
	d, s := fresh(t, 20)
	for i := range 5 {
		puts(t, s, text(9, i), uint64(i+1))
	}
	keeps(t, s, 5)
	commits(t, s, nil, api.OK)
	ids(t, s)
	free(t, s, 18)
	nexts(t, s, 6)
	nexts(t, opens(t, d), 6)
	puts(t, s, text(9, 1), 6)
	commits(t, s, nil, api.OK)
	keeps(t, s, 1)
	commits(t, s, nil, api.OK)
	nexts(t, s, 7)
	nexts(t, opens(t, d), 7)
}

// behindAbort asks that a Commit with an error left all as it was behind the last one: ids 1 and 2, the state, the next number 3, and what is free.
func behindAbort(t *testing.T, d *dev.Dev, s *chunk.Store, pages int) {
	t.Helper()
	for _, x := range []*chunk.Store{s, opens(t, d.Copy())} {
		ids(t, x, 1, 2)
		gets(t, x, 1, text(200, 1))
		gets(t, x, 2, text(20, 2))
		finds(t, x, text(200, 1), 1)
		finds(t, x, text(20, 3), 0)
		getsNot(t, x, 3, api.ErrNone)
		stated(t, x, []byte("kept"))
		stands(t, x, 1, 2, 3, 1)
		rooted(t, x, 4, 1)
		free(t, x, pages)
		nexts(t, x, 3)
	}
}

func TestP8_3CommitErrors(t *testing.T) {
	d, s := fresh(t, 10)
	puts(t, s, text(200, 1), 1)
	puts(t, s, text(20, 2), 2)
	commits(t, s, []byte("kept"), api.OK)
	for _, c := range []struct {
		size int
		want api.Errno
	}{{most + 1, api.ErrLong}, {most, api.ErrLong}, {most - 3, api.ErrLong}, {4 * 124, api.ErrSpace}, {9 * 124, api.ErrSpace}} {
		puts(t, s, text(20, 3), 3)
		keeps(t, s, 1, 2, 3)
		commits(t, s, text(c.size, 4), c.want)
		behindAbort(t, d, s, 5)
		keeps(t, s, 2)
		commits(t, s, text(10*124, 4), api.ErrSpace)
		behindAbort(t, d, s, 5)
		puts(t, s, text(20, 3), 3)
		puts(t, s, text(4*124, 5), 4)
		commits(t, s, nil, api.ErrSpace)
		behindAbort(t, d, s, 5)
	}
	commits(t, s, text(5*124, 4), api.ErrSpace)
	behindAbort(t, d, s, 5)
	commits(t, s, text(4*124, 4), api.OK)
	stated(t, s, text(4*124, 4))
	stated(t, opens(t, d), text(4*124, 4))
}

// The longest state is one that leaves room in the root for the rest of it: here a number of one byte, one of three, and one of one.
func TestP8_3CommitLong(t *testing.T) {
	d, s := fresh(t, 1060)
	commits(t, s, text(most-4, 1), api.ErrLong)
	commits(t, s, text(most-5, 1), api.OK)
	rooted(t, s, 1, 1058)
	stated(t, s, text(most-5, 1))
	stated(t, opens(t, d), text(most-5, 1))
	puts(t, s, nil, 1)
	commits(t, s, nil, api.ErrSpace)
	ids(t, s)
	stated(t, s, text(most-5, 1))
	commits(t, s, []byte("short"), api.OK)
	free(t, s, 1058)
	stated(t, opens(t, d), []byte("short"))
}

func TestP8_3Abort(t *testing.T) {
	d, s := fresh(t, 20)
	check := func() {
		t.Helper()
		for _, x := range []*chunk.Store{s, opens(t, d.Copy())} {
			ids(t, x, 1, 2, 3)
			stands(t, x, 1, 2, 3, 1, 4, 1)
			for i, size := range []int{200, 20, 30} {
				gets(t, x, uint64(i+1), text(size, i))
				finds(t, x, text(size, i), uint64(i+1))
			}
			finds(t, x, text(40, 4), 0)
			stated(t, x, []byte("kept"))
			rooted(t, x, 5, 1)
			free(t, x, 14)
			nexts(t, x, 4)
		}
	}
	s.Abort()
	ids(t, s)
	free(t, s, 19)
	puts(t, s, text(5, 1), 1)
	s.Abort()
	ids(t, s)
	free(t, s, 19)
	rooted(t, s, 0, 0)
	stated(t, s, nil)
	for i, size := range []int{200, 20, 30} {
		puts(t, s, text(size, i), uint64(i+1))
	}
	commits(t, s, []byte("kept"), api.OK)
	check()
	for range 2 {
		s.Abort()
		check()
		puts(t, s, text(40, 4), 4)
		puts(t, s, text(50, 5), 5)
		s.Abort()
		check()
		keeps(t, s, 2, 2)
		s.Abort()
		check()
		puts(t, s, text(40, 4), 4)
		keeps(t, s, 3, 2)
		puts(t, s, text(40, 4), 5)
		puts(t, s, text(200, 0), 6)
		keeps(t, s, 3)
		stated(t, s, []byte("kept"))
		s.Abort()
		s.Abort()
		check()
	}
	x := opens(t, d)
	keeps(t, x, 3)
	puts(t, x, text(40, 4), 4)
	x.Abort()
	check()
	ids(t, x, 1, 2, 3)
	nexts(t, x, 4)
}

func TestP8_4Ids(t *testing.T) {
	_, s := fresh(t, 60)
	for i := range 40 {
		puts(t, s, text(9, i), uint64(i+1))
	}
	all := s.Ids()
	for range 2 {
		n := uint64(0)
		for id := range all {
			n++
			if id != n {
				t.Fatalf("Ids: %d, not %d", id, n)
			}
		}
		if n != 40 {
			t.Fatalf("Ids: %d of them", n)
		}
	}
	for _, left := range []uint64{1, 2, 39, 40} {
		for id := range all {
			if id == left {
				break
			}
			if id > left {
				t.Fatalf("told behind the end: %d", id)
			}
		}
	}
	keeps(t, s, 38, 7, 12)
	puts(t, s, nil, 41)
	ids(t, s, 7, 12, 41)
	if got := slices.Collect(all); len(got) != 40 {
		t.Fatalf("what was told has changed: %v", got)
	}
	told := s.Ids()
	for id := range told {
		puts(t, s, text(10, int(id)), map[uint64]uint64{7: 42, 12: 43, 41: 44}[id])
	}
	ids(t, s, 7, 12, 41, 42, 43, 44)
	s.Abort()
	ids(t, s)
	if got := slices.Collect(told); !slices.Equal(got, []uint64{7, 12, 41}) {
		t.Fatalf("what was told has changed: %v", got)
	}
}

func TestP8_4Pages(t *testing.T) {
	d, s := fresh(t, 20)
	stands(t, s)
	free(t, s, 19)
	rooted(t, s, 0, 0)
	puts(t, s, text(500, 1), 1)
	puts(t, s, text(1, 1), 2)
	puts(t, s, text(130, 1), 3)
	stands(t, s, 1, 5, 6, 1, 7, 2)
	free(t, s, 11)
	rooted(t, s, 0, 0)
	commits(t, s, nil, api.OK)
	stands(t, s, 1, 5, 6, 1, 7, 2)
	free(t, s, 10)
	rooted(t, s, 9, 1)
	keeps(t, s, 1, 2, 3)
	stands(t, s, 6, 1, 7, 2)
	free(t, s, 10)
	rooted(t, s, 9, 1)
	puts(t, s, text(130, 2), 4)
	stands(t, s, 6, 1, 7, 2, 10, 2)
	free(t, s, 8)
	commits(t, s, text(200, 1), api.OK)
	stands(t, s, 6, 1, 7, 2, 10, 2)
	free(t, s, 12)
	rooted(t, s, 12, 2)
	puts(t, s, text(300, 2), 5)
	stands(t, s, 6, 1, 7, 2, 10, 2, 1, 3)
	free(t, s, 9)
	s.Abort()
	stands(t, s, 6, 1, 7, 2, 10, 2)
	free(t, s, 12)
	rooted(t, s, 12, 2)
	x := opens(t, d)
	stands(t, x, 6, 1, 7, 2, 10, 2)
	free(t, x, 12)
	rooted(t, x, 12, 2)
}

// none asks of each call what a Store answers that can't do anything.
func none(t *testing.T, s *chunk.Store) {
	t.Helper()
	for range 2 {
		for _, b := range [][]byte{nil, []byte("a"), text(200, 1), text(1000000, 1)} {
			putsNot(t, s, b, api.ErrDev)
			finds(t, s, b, 0)
			commits(t, s, b, api.ErrDev)
		}
		for _, id := range []uint64{0, 1, 2, 3, 4, math.MaxUint64} {
			getsNot(t, s, id, api.ErrDev)
		}
		if s.Keep(nil) != 0 || s.Keep(func(id uint64) bool { t.Fatalf("asked for %d", id); return false }) != 0 {
			t.Fatal("Keep let chunks go")
		}
	}
}

func TestP8_4Nobody(t *testing.T) {
	var a, b, c, zero chunk.Store
	getsNot(t, &a, 0, api.ErrDev)
	commits(t, &b, nil, api.ErrDev)
	c.Abort()
	getsNot(t, &c, 1, api.ErrDev)
	for _, s := range []*chunk.Store{nil, &zero, {}} {
		for range 3 {
			none(t, s)
			stated(t, s, nil)
			ids(t, s)
			stands(t, s)
			free(t, s, 0)
			rooted(t, s, 0, 0)
			for range s.Ids() {
				t.Fatal("there is a number")
			}
			s.Abort()
		}
	}
}

// A device that dies at a write of a Put, or at one of a Commit or at its flushes: the Store is at an end, whatever becomes of the device.
func TestP8_3Dies(t *testing.T) {
	for n := 0; ; n++ {
		d, s := fresh(t, 20)
		puts(t, s, text(200, 1), 1)
		puts(t, s, text(20, 2), 2)
		commits(t, s, []byte("kept"), api.OK)
		keeps(t, s, 1, 2)
		d.Arm(n)
		id, e := s.Put(text(20, 3))
		if n < 4 {
			if id != 0 || e != api.ErrDev {
				t.Fatalf("Put on a device that dies behind %d: %d, %d", n, id, e)
			}
		} else if e = s.Commit(text(200, 9)); e == api.OK {
			if n != 4+8+3 {
				t.Fatalf("a Commit without an error on a device that dies behind %d", n)
			}
			ids(t, s, 2, 3)
			return
		} else if e != api.ErrDev {
			t.Fatalf("Commit on a device that dies behind %d: %d", n, e)
		}
		none(t, s)
		stated(t, s, []byte("kept"))
		rooted(t, s, 4, 1)
		s.Abort()
		none(t, s)
		ids(t, s, 1, 2)
		stands(t, s, 1, 2, 3, 1)
		free(t, s, 15)
		d.Crash(api.Fate{Torn: -1})
		none(t, s)
		stated(t, s, []byte("kept"))
		x := opens(t, d)
		ids(t, x, 1, 2)
		commits(t, x, nil, api.OK)
		none(t, s)
	}
}

// Whatever is put, let go, kept and taken back: no two chunks are alike, and each is found by its bytes.
func TestP8_5Once(t *testing.T) {
	_, s := fresh(t, 200)
	for round := range 60 {
		for i := range 12 {
			b := text((i*37)%300, (i*round)%5)
			id, e := s.Put(b)
			if again, f := s.Put(b); e != api.OK || f != api.OK || again != id {
				t.Fatalf("Put twice: %d, %d, then %d, %d", id, e, again, f)
			}
		}
		switch round % 4 {
		case 1:
			s.Keep(func(id uint64) bool { return id%3 > 0 })
		case 2:
			commits(t, s, nil, api.OK)
		case 3:
			s.Abort()
		}
		seen := map[string]uint64{}
		for id := range s.Ids() {
			b, e := s.Get(id)
			if e != api.OK || seen[string(b)] != 0 {
				t.Fatalf("Get(%d): %d, and %d has the same bytes", id, e, seen[string(b)])
			}
			seen[string(b)] = id
			finds(t, s, b, id)
		}
	}
}
