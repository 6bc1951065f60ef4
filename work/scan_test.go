package work_test

import (
	"math"
	"math/rand"
	"slices"
	"strings"
	"testing"

	"apograph/api"
	"apograph/work"
)

// P18.2: bounds that are empty, alike, the wrong way round, at keys and between them, and each number that is asked for.
func TestP18_2Scan(t *testing.T) {
	for _, l := range [][]api.Entry{
		nil,
		of("b=1"),
		of("b="),
		of("b=1", "d=2"),
		of("b=1", "d=2", "f=3", "h=4"),
		of("\x00=1", "b=2", "b\x00=3", "ba=4", "\xff=5", "\xff\xff=6"),
	} {
		b := wide(t)
		root := b.builds(l)
		bounds := []string{"", "\x00", "a", "c", "e", "i", "\xff", "\xff\xff\xff", strings.Repeat("b", 41), strings.Repeat("\xff", 300)}
		for _, x := range l {
			bounds = append(bounds, x.Key, x.Key+"\x00", x.Key[:len(x.Key)-1])
		}
		for _, lo := range bounds {
			for _, hi := range bounds {
				for most := range len(l) + 3 {
					b.scans(root, lo, hi, most, within(l, lo, hi, most))
				}
				b.scans(root, lo, hi, math.MaxInt, within(l, lo, hi, 0))
				noEntries(t, api.ErrRange)(work.Scan(b.s, root, lo, hi, -1))
				noEntries(t, api.ErrRange)(work.Scan(b.s, root, lo, hi, math.MinInt))
			}
		}
		b.holds()
	}
}

// P18.2, by hand.
func TestP18_2ScanByHand(t *testing.T) {
	b := wide(t)
	l := of("a=1", "c=2", "e=3", "g=4", "i=5")
	root := b.builds(l)
	for _, x := range []struct {
		lo, hi string
		most   int
		want   []api.Entry
	}{
		{"", "", 0, l},
		{"", "", 1, l[:1]},
		{"", "", 4, l[:4]},
		{"", "", 5, l},
		{"", "", 6, l},
		{"c", "", 0, l[1:]},
		{"", "c", 0, l[:1]},
		{"c", "g", 0, l[1:3]},
		{"c", "g", 1, l[1:2]},
		{"c", "g", 2, l[1:3]},
		{"c", "g", 3, l[1:3]},
		{"c", "c", 0, nil},
		{"c", "c\x00", 0, l[1:2]},
		{"b", "f", 0, l[1:3]},
		{"b", "c", 0, nil},
		{"g", "c", 0, nil},
		{"j", "", 0, nil},
		{"", "a", 0, nil},
		{"i", "", 0, l[4:]},
		{"i", "", 1, l[4:]},
	} {
		b.scans(root, x.lo, x.hi, x.most, x.want)
	}
}

// P18.2: trees of all sorts of sizes, with more keys than may be worked on too.
func TestP18_2ScanSizes(t *testing.T) {
	r := rand.New(rand.NewSource(2))
	b := wide(t)
	for _, n := range []int{10, 100, 399, 400, 401, 1000} {
		l := many(n)
		root := b.builds(l)
		for _, most := range []int{0, 1, 2, n - 1, n, n + 1} {
			b.scans(root, "", "", most, within(l, "", "", most))
		}
		for range 60 {
			lo, hi := l[r.Intn(n)].Key, l[r.Intn(n)].Key
			if r.Intn(2) == 0 {
				lo = lo[:len(lo)-1]
			}
			if r.Intn(2) == 0 {
				hi += "0"
			}
			most := r.Intn(n)
			b.scans(root, lo, hi, most, within(l, lo, hi, most))
		}
	}
	b.holds()
}

// P18.2: of the empty map, and of a map and the same, there is nothing; of two what they differ in.
func TestP18_2Status(t *testing.T) {
	b := wide(t)
	var roots []uint64
	for _, l := range [][]api.Entry{
		nil,
		of("a=1"),
		of("a=2"),
		of("a="),
		of("b=1"),
		of("a=1", "b=1"),
		of("a=1", "d=2", "f=3", "g=4"),
		of("a=1", "f=3", "g=4"),
		many(40),
		many(41),
		many(400),
		many(1000),
		many(1000)[300:700],
	} {
		roots = append(roots, b.builds(l))
	}
	for _, x := range roots {
		for _, y := range roots {
			b.differs(x, y)
		}
	}
}

// P18.2, by hand: head's is what was, root's is what is.
func TestP18_2StatusByHand(t *testing.T) {
	b := wide(t)
	head := b.builds(of("a=1", "c=2", "e="))
	root := b.does(head, put("a", "3"), gone("c"), put("d", ""))
	want := []api.Change{
		{Key: "a", Had: true, Was: "1", Has: true, Now: "3"},
		{Key: "c", Had: true, Was: "2"},
		{Key: "d", Has: true},
	}
	if l, e := work.Status(b.s, head, root); e != api.OK || !slices.Equal(l, want) {
		t.Error(l, e)
	}
	want = []api.Change{
		{Key: "a", Had: true, Was: "3", Has: true, Now: "1"},
		{Key: "c", Has: true, Now: "2"},
		{Key: "d", Had: true},
	}
	if l, e := work.Status(b.s, root, head); e != api.OK || !slices.Equal(l, want) {
		t.Error(l, e)
	}
	want = []api.Change{{Key: "a", Has: true, Now: "1"}, {Key: "c", Has: true, Now: "2"}, {Key: "e", Has: true}}
	if l, e := work.Status(b.s, 0, head); e != api.OK || !slices.Equal(l, want) {
		t.Error(l, e)
	}
}

// P18.2, P11.4: of a root and itself no leaf is asked for, even where a root isn't a tree's below.
func TestP18_2StatusAlike(t *testing.T) {
	b := wide(t)
	root := b.crafts(api.Node{Level: 1, Kids: []api.Kid{{Last: plain(1)[0], Id: 1 << 40}}}).Id
	if l, e := work.Status(b.s, root, root); len(l) != 0 || e != api.OK {
		t.Error(l, e)
	}
	noChanges(t, api.ErrNone)(work.Status(b.s, root, 0))
}

// P2: answers share nothing with each other, nor with what the store keeps.
func TestP18_2Memory(t *testing.T) {
	b := wide(t)
	root, next := b.builds(many(50)), b.builds(many(60))
	x, _ := work.Scan(b.s, root, "", "", 0)
	y, _ := work.Scan(b.s, root, "", "", 0)
	clear(y[:cap(y)])
	if !slices.Equal(x, many(50)) {
		t.Error(x)
	}
	few, _ := work.Scan(b.s, root, "", "", 7)
	if rest := few[len(few):cap(few)]; slices.ContainsFunc(rest, func(x api.Entry) bool { return x != api.Entry{} }) {
		t.Error(rest)
	}
	p, _ := work.Status(b.s, root, next)
	q, _ := work.Status(b.s, root, next)
	clear(q[:cap(q)])
	if !slices.Equal(p, unlike(many(50), many(60))) {
		t.Error(p)
	}
	b.differs(root, next)
	b.all()
}
