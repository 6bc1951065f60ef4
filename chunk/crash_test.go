package chunk_test

import (
	"testing"

	"apograph/api"
	"apograph/chunk"
	"apograph/dev"
)

// fates are crashes of so many cached writes: all kept, each second one, all up to one, all but one, and with each of these each write torn.
func fates(n int) []api.Fate {
	var keeps [][]bool
	add := func(is func(i int) bool) {
		k := make([]bool, n)
		for i := range k {
			k[i] = is(i)
		}
		keeps = append(keeps, k)
	}
	add(func(i int) bool { return i%2 == 0 })
	for at := range n + 1 {
		add(func(i int) bool { return i < at })
		add(func(i int) bool { return i != at })
	}
	var all []api.Fate
	for _, k := range keeps {
		all = append(all, api.Fate{Keep: k, Torn: -1})
		for torn := range n {
			for _, size := range []int{0, 8, 31} {
				all = append(all, api.Fate{Keep: k, Torn: torn, Bytes: size})
			}
		}
	}
	return all
}

// told is a Store as it was behind a Commit.
type told struct {
	state string
	texts map[uint64]string
	next  uint64
}

// is asks for just that, of a Store on so many pages.
func (w told) is(t *testing.T, s *chunk.Store, pages int) {
	t.Helper()
	used := 1 + s.Root().Pages
	n := 0
	for id := range s.Ids() {
		b, e := s.Get(id)
		if want, there := w.texts[id]; e != api.OK || !there || string(b) != want {
			t.Fatalf("Get(%d): %d, %q, not %q", id, e, b, want)
		}
		finds(t, s, b, id)
		used += need(len(b))
		n++
	}
	if n != len(w.texts) {
		t.Fatalf("%d chunks, not %d", n, len(w.texts))
	}
	stated(t, s, []byte(w.state))
	free(t, s, pages-used)
	nexts(t, s, w.next)
}

// crashes asks that behind every crash Open tells one of these, whole, and goes on from there; and that each of them is told behind some crash.
func crashes(t *testing.T, d *dev.Dev, may ...told) {
	t.Helper()
	pages := d.Size() / 4
	seen := map[string]int{}
	for _, f := range fates(d.Cached()) {
		c := d.Copy()
		c.Crash(f)
		s, e := chunk.Open(c)
		if e != api.OK {
			t.Fatalf("Open behind %v: %d", f, e)
		}
		var now told
		for _, w := range may {
			if string(s.State()) == w.state {
				now = w
			}
		}
		now.is(t, s, pages)
		seen[now.state]++
		puts(t, s, []byte("and on"), now.next)
		commits(t, s, []byte("more"), api.OK)
		x := opens(t, c)
		stated(t, x, []byte("more"))
		gets(t, x, now.next, []byte("and on"))
		for id, b := range now.texts {
			gets(t, x, id, []byte(b))
		}
	}
	if len(seen) != len(may) {
		t.Fatalf("not all of them are told: %v", seen)
	}
}

// A transaction with texts that stay, go, come, and come and go, struck behind each of its writes and flushes.
func TestP8_6Crash(t *testing.T) {
	before := told{"before", map[uint64]string{1: "stays", 2: string(text(200, 1)), 3: "stays, too"}, 4}
	behind := told{"behind" + string(text(80, 5)), map[uint64]string{1: "stays", 3: "stays, too", 4: string(text(130, 2)), 6: string(text(200, 1))}, 7}
	for n := 0; ; n++ {
		d, s := fresh(t, 24)
		for id := uint64(1); id < 4; id++ {
			puts(t, s, []byte(before.texts[id]), id)
		}
		commits(t, s, []byte(before.state), api.OK)
		d.Arm(n)
		s.Put([]byte(behind.texts[4]))
		s.Keep(func(id uint64) bool { return id != 2 })
		s.Put([]byte("comes and goes"))
		s.Put([]byte(behind.texts[6]))
		s.Keep(func(id uint64) bool { return id != 5 })
		e := s.Commit([]byte(behind.state))
		if e == api.OK {
			if n != 8+4+8+4+3 {
				t.Fatalf("a Commit without an error on a device that dies behind %d", n)
			}
			d.Arm(-1)
			crashes(t, d, behind)
			behind.is(t, s, 24)
			return
		}
		if e != api.ErrDev {
			t.Fatalf("Commit on a device that dies behind %d: %d", n, e)
		}
		if n == 8+4+8+4+2 {
			crashes(t, d, before, behind)
		} else {
			crashes(t, d, before)
		}
	}
}

// A crash between two Commits, with all kinds of changes that weren't committed, or were aborted.
func TestP8_6Between(t *testing.T) {
	d, s := fresh(t, 14)
	kept := told{"kept", map[uint64]string{1: "a", 2: string(text(130, 1)), 3: ""}, 4}
	for id := uint64(1); id < 4; id++ {
		puts(t, s, []byte(kept.texts[id]), id)
	}
	commits(t, s, []byte("kept"), api.OK)
	crashes(t, d, kept)
	keeps(t, s, 2, 3)
	crashes(t, d, kept)
	puts(t, s, []byte("a"), 4)
	crashes(t, d, kept)
	s.Abort()
	crashes(t, d, kept)
	puts(t, s, text(124, 9), 4)
	commits(t, s, text(9*124, 1), api.ErrSpace)
	crashes(t, d, kept)
	keeps(t, s, 1, 1, 3)
	puts(t, s, text(124, 8), 4)
	commits(t, s, []byte("anew"), api.OK)
	crashes(t, d, told{"anew", map[uint64]string{1: "a", 3: "", 4: string(text(124, 8))}, 5})
}

// Transactions one behind the other, each struck and then gone on with.
func TestP8_6Again(t *testing.T) {
	for n := range 25 {
		d, s := fresh(t, 16)
		now := told{"", map[uint64]string{}, 1}
		for round := range 40 {
			d.Arm((n + 7*round) % 30)
			then := told{string(text(5+round, round)), map[uint64]string{}, now.next}
			for id, b := range now.texts {
				if id%3 != uint64(round%3) {
					then.texts[id] = b
				}
			}
			s.Keep(func(id uint64) bool { return id%3 != uint64(round%3) })
			b := text(round*11%260, round)
			if id, e := s.Put(b); e == api.OK {
				then.texts[id] = string(b)
				then.next = max(then.next, id+1)
			}
			e := s.Commit([]byte(then.state))
			keep := make([]bool, d.Cached())
			for i := range keep {
				keep[i] = (i+round+n)%3 > 0
			}
			d.Crash(api.Fate{Keep: keep, Torn: (n+round)%20 - 1, Bytes: (7*round + n) % 33})
			s = opens(t, d)
			if string(s.State()) == then.state && (e == api.OK || e == api.ErrDev) {
				now = then
			} else if e == api.OK {
				t.Fatalf("round %d of %d: what was committed isn't told", round, n)
			}
			now.is(t, s, 16)
		}
	}
}
