package pager_test

import (
	"bytes"
	"slices"
	"testing"

	"apograph/api"
	"apograph/dev"
	"apograph/pager"
)

// fates are crashes of so many cached writes: all kept, none, each one alone, all but one, all up to one, and with each of these each write torn.
func fates(n int) []api.Fate {
	var keeps [][]bool
	add := func(is func(i int) bool) {
		k := make([]bool, n)
		for i := range k {
			k[i] = is(i)
		}
		keeps = append(keeps, k)
	}
	add(func(i int) bool { return true })
	add(func(i int) bool { return false })
	add(func(i int) bool { return i%2 == 0 })
	for at := range n {
		add(func(i int) bool { return i == at })
		add(func(i int) bool { return i != at })
		add(func(i int) bool { return i < at })
	}
	var all []api.Fate
	for _, k := range keeps {
		all = append(all, api.Fate{Keep: k, Torn: -1})
		for torn := range n {
			for _, size := range []int{0, 1, 7, 8, 12, 20, 24, 31, 32} {
				all = append(all, api.Fate{Keep: k, Torn: torn, Bytes: size})
			}
		}
	}
	return all
}

// kept is a text that was committed, with its pages.
type kept struct {
	at   api.Span
	text []byte
}

// told is a root with the texts that stand beside it.
type told struct {
	root  []byte
	texts []kept
}

// crashes asks that behind every crash Open tells one of these, whole, and goes on from there; and that each of them is told behind some crash.
func crashes(t *testing.T, d *dev.Dev, may ...told) {
	t.Helper()
	seen := make([]bool, len(may))
	for _, f := range fates(d.Cached()) {
		c := d.Copy()
		c.Crash(f)
		p, b, e := pager.Open(c)
		at := slices.IndexFunc(may, func(w told) bool { return bytes.Equal(w.root, b) })
		if e != api.OK || at < 0 {
			t.Fatalf("Open behind %v: %d, %d bytes", f, e, len(b))
		}
		seen[at] = true
		for _, k := range may[at].texts {
			gets(t, p, k.at, k.text)
			claims(t, p, k.at.Start, k.at.Pages, true)
		}
		commits(t, p, []byte("and on"), api.OK)
		q := opened(t, c, []byte("and on"))
		for _, k := range may[at].texts {
			gets(t, q, k.at, k.text)
		}
	}
	if slices.Contains(seen, false) {
		t.Fatalf("not all of them are told: %v", seen)
	}
}

// A transaction that takes 19 writes and flushes, of which the last but one writes the super: struck behind each of them.
func TestP7_5Crash(t *testing.T) {
	stays, goes := kept{span(1, 1), text(100, 7)}, kept{span(2, 3), text(300, 8)}
	added, more := kept{span(7, 1), text(124, 9)}, kept{span(8, 1), text(3, 9)}
	before := told{text(200, 1), []kept{stays, goes}}
	behind := told{text(130, 2), []kept{stays, added, more}}
	for n := range 20 {
		d, p := fresh(t, 14)
		puts(t, p, stays.text, stays.at)
		puts(t, p, goes.text, goes.at)
		commits(t, p, before.root, api.OK)
		d.Arm(n)
		_, first := p.Put(added.text)
		dropped := p.Drop(goes.at)
		_, second := p.Put(more.text)
		last := p.Commit(behind.root)
		alive := func(e api.Errno) bool { return e == api.OK }
		if alive(first) != (n >= 4) || dropped != (n >= 4) || alive(second) != (n >= 8) || alive(last) != (n >= 19) {
			t.Fatalf("on a device that dies behind %d: %d, %v, %d, %d", n, first, dropped, second, last)
		}
		switch {
		case n < 18:
			crashes(t, d, before)
		case n == 18:
			crashes(t, d, before, behind)
		default:
			crashes(t, d, behind)
		}
	}
}

// Transactions one behind the other, each struck and then gone on with: neither what was lost nor what was torn comes back.
func TestP7_5CrashAgain(t *testing.T) {
	for n := range 12 {
		d, p := fresh(t, 8)
		root := []byte(nil)
		for round := range 30 {
			d.Arm((n + 5*round) % 13)
			next := text(1+(round*37)%240, round)
			_, _ = p.Put(text(100, round))
			e := p.Commit(next)
			if e == api.OK {
				root = next
			}
			keep := make([]bool, d.Cached())
			for i := range keep {
				keep[i] = (i+round+n)%3 > 0
			}
			d.Crash(api.Fate{Keep: keep, Torn: (n+round)%14 - 1, Bytes: (7*round + n) % 33})
			q, b, oe := pager.Open(d)
			if oe != api.OK || !bytes.Equal(b, root) && (e == api.OK || !bytes.Equal(b, next)) {
				t.Fatalf("round %d of %d: %d, %d bytes", round, n, oe, len(b))
			}
			p, root = q, b
		}
	}
}

// A Commit that went well is kept: no crash behind it takes it back.
func TestP7_5Kept(t *testing.T) {
	d, p := fresh(t, 10)
	for i := range 40 {
		s, e := p.Put(text(200, i))
		if e != api.OK {
			t.Fatal(e)
		}
		commits(t, p, text(i*4, i), api.OK)
		crashes(t, d, told{text(i*4, i), []kept{{s, text(200, i)}}})
		if !p.Drop(s) {
			t.Fatal("Drop")
		}
	}
}

// Aborted pages are written again in the next transaction: nothing of them is told.
func TestP7_5Aborted(t *testing.T) {
	d, p := fresh(t, 10)
	puts(t, p, text(100, 1), span(1, 1))
	commits(t, p, []byte("one"), api.OK)
	old := told{[]byte("one"), []kept{{span(1, 1), text(100, 1)}}}
	puts(t, p, text(300, 2), span(3, 3))
	drops(t, p, 1, 1, true)
	p.Abort()
	crashes(t, d, old)
	puts(t, p, text(200, 3), span(3, 2))
	p.Abort()
	crashes(t, d, old)
	commits(t, p, []byte("two"), api.OK)
	crashes(t, d, told{[]byte("two"), old.texts})
}
