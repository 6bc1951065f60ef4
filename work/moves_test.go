package work_test

import (
	"maps"
	"math/rand"
	"strconv"
	"strings"
	"testing"

	"apograph/api"
	"apograph/chunk"
)

// moves reads calls from bytes, does them one by one on whatever roots there are, and asks for what is meant.
func moves(t *testing.T, in []byte) {
	at := 0
	take := func(below int) int {
		if at >= len(in) {
			return 0
		}
		at++
		return int(in[at-1]) % below
	}
	key := func() string {
		n := take(48)
		if n < 40 {
			return "k" + strconv.Itoa(n)
		}
		return []string{"", "\x00", "~", "d", "k", strings.Repeat("k", 40), strings.Repeat("k", 41), "k1\xff"}[n-40]
	}
	val := func() string {
		return []string{"", "1", "2", "1", "2", "\x00", strings.Repeat("v", 200), strings.Repeat("v", 201)}[take(8)]
	}
	b := newBench(t, 16384)
	roots := []uint64{0, b.builds(many(7))}
	for i := 0; at < len(in) && i < 150; i++ {
		root := roots[len(roots)-1-take(len(roots))]
		switch take(6) {
		case 0, 1:
			roots = append(roots, b.sets(root, key(), val()))
		case 2:
			roots = append(roots, b.takes(root, key()))
		case 3:
			var l []api.Edit
			for range take(6) {
				l = append(l, api.Edit{Key: key(), Val: val(), Gone: take(3) == 0})
			}
			roots = append(roots, b.does(root, l...))
		case 4:
			lo, hi, most := key(), key(), take(9)
			b.scans(root, lo, hi, most, within(b.maps[root], lo, hi, most))
		case 5:
			b.differs(root, roots[take(len(roots))])
		}
	}
	b.all()
}

// P18.1, P18.2: rows of calls by chance.
func TestP18Chance(t *testing.T) {
	r := rand.New(rand.NewSource(18))
	for range 60 {
		in := make([]byte, 400)
		r.Read(in)
		moves(t, in)
	}
}

// P18.1: maps that stay about 400 keys, by edits by chance.
func TestP18_1ChanceMany(t *testing.T) {
	r := rand.New(rand.NewSource(400))
	b := wide(t)
	root := b.builds(many(398))
	met := map[int]int{}
	for range 150 {
		var l []api.Edit
		for range 1 + r.Intn(6) {
			l = append(l, api.Edit{Key: "k" + strconv.Itoa(1000 + r.Intn(999))[1:], Gone: r.Intn(5) < 2})
			if r.Intn(3) == 0 {
				l[len(l)-1].Key += "0"
			}
		}
		met[len(done(b.maps[root], l...))]++
		if id := b.does(root, l...); id != 0 {
			root = id
		}
	}
	if met[399] == 0 || met[400] == 0 || met[401] == 0 || met[402] == 0 {
		t.Error(met)
	}
	b.all()
}

// What is committed is worked on likewise when the device is opened anew; and behind an Abort all is as it was.
func TestP18Opened(t *testing.T) {
	b := wide(t)
	root := b.does(0, fills(100)...)
	if e := b.s.Commit([]byte("state")); e != api.OK {
		t.Fatal(e)
	}
	kept := len(b.texts)
	work := func() {
		b.sets(root, "k0000", "new")
		b.takes(root, "k0000")
		if len(b.texts) == kept {
			t.Fatal("nothing was put")
		}
	}
	work()
	b.s.Abort()
	b.back(kept)
	work()
	b.d.Crash(api.Fate{Torn: -1})
	s, e := chunk.Open(b.d)
	if e != api.OK {
		t.Fatal(e)
	}
	b.s = s
	b.back(kept)
	work()
	b.all()
}

// back takes the bench back to its first texts, and to the maps of those, and asks for just them.
func (b *bench) back(n int) {
	b.Helper()
	for _, text := range b.texts[n:] {
		delete(b.ids, text)
	}
	b.texts = b.texts[:n:n]
	maps.DeleteFunc(b.maps, func(root uint64, _ []api.Entry) bool { return root > uint64(n) })
	b.all()
}

func FuzzMoves(f *testing.F) {
	f.Add([]byte("a put, a scan, a del"))
	r := rand.New(rand.NewSource(1))
	for range 20 {
		in := make([]byte, r.Intn(300))
		r.Read(in)
		f.Add(in)
	}
	f.Fuzz(moves)
}
