package tree_test

import (
	"encoding/binary"
	"fmt"
	"hash/fnv"
	"maps"
	"slices"
	"strconv"
	"strings"
	"testing"

	"apograph/api"
	"apograph/chunk"
	"apograph/dev"
	"apograph/tree"
)

// ends tells by the library's FNV-1a whether a key Ends.
func ends(level int, key string) bool {
	h := fnv.New64a()
	h.Write([]byte{byte(level)})
	h.Write([]byte(key))
	return level < 20 && h.Sum64()/1024%4 == 0
}

// pick is n keys of 8 bytes, rising, all of which End at this level, or none.
func pick(level, n int, end bool) []string {
	var l []string
	for i := 10_000_000; len(l) < n; i++ {
		if k := strconv.Itoa(i); ends(level, k) == end {
			l = append(l, k)
		}
	}
	return l
}

// entries are keys with values that tell them apart.
func entries(keys ...string) []api.Entry {
	var l []api.Entry
	for _, k := range keys {
		l = append(l, api.Entry{Key: k, Val: "of " + k})
	}
	return l
}

// many is n entries with keys that rise.
func many(n int) []api.Entry {
	var l []string
	for i := range n {
		l = append(l, fmt.Sprintf("k%04d", 3*i))
	}
	return entries(l...)
}

// laid is the text of a node, its numbers made by the library.
func laid(n api.Node) string {
	b := binary.AppendUvarint(nil, uint64(n.Level))
	b = binary.AppendUvarint(b, uint64(len(n.Entries)+len(n.Kids)))
	text := func(s string) {
		b = binary.AppendUvarint(b, uint64(len(s)))
		b = append(b, s...)
	}
	for _, x := range n.Entries {
		text(x.Key)
		text(x.Val)
	}
	for _, k := range n.Kids {
		text(k.Last)
		b = binary.AppendUvarint(b, k.Id)
	}
	return string(b)
}

// shelf is a store as it is meant: each text once, by rising numbers; and what the tree has that was built last.
type shelf struct {
	ids    map[string]uint64
	next   uint64
	leaves []api.Kid
	height int
	nodes  []uint64
}

func newShelf() *shelf {
	return &shelf{ids: map[string]uint64{}, next: 1}
}

func (s *shelf) put(text string) uint64 {
	if s.ids[text] == 0 {
		s.ids[text] = s.next
		s.next++
	}
	return s.ids[text]
}

// build puts the tree of a map, node by node, and tells its root.
func (s *shelf) build(l []api.Entry) uint64 {
	s.leaves, s.nodes, s.height = nil, nil, 0
	var kids []api.Kid
	var n api.Node
	for i, x := range l {
		n.Entries = append(n.Entries, x)
		if ends(0, x.Key) || i == len(l)-1 {
			kids = append(kids, api.Kid{Last: x.Key, Id: s.put(laid(n))})
			n = api.Node{}
		}
	}
	s.leaves = kids
	for level := 1; ; level++ {
		for _, k := range kids {
			s.nodes = append(s.nodes, k.Id)
		}
		if len(kids) > 0 {
			s.height++
		}
		if len(kids) < 2 {
			break
		}
		var above []api.Kid
		n := api.Node{Level: level}
		for i, k := range kids {
			n.Kids = append(n.Kids, k)
			if ends(level, k.Last) || i == len(kids)-1 {
				above = append(above, api.Kid{Last: k.Last, Id: s.put(laid(n))})
				n.Kids = nil
			}
		}
		kids = above
	}
	slices.Sort(s.nodes)
	s.nodes = slices.Compact(s.nodes)
	if len(kids) == 0 {
		return 0
	}
	return kids[0].Id
}

// texts are the shelf's texts in the order in which they were put.
func (s *shelf) texts() []string {
	l := make([]string, s.next-1)
	for text, id := range s.ids {
		l[id-1] = text
	}
	return l
}

// holds asks for a store with just these texts, by the numbers from 1 on.
func holds(t *testing.T, s *chunk.Store, texts []string) {
	t.Helper()
	ids := slices.Collect(s.Ids())
	if len(ids) != len(texts) {
		t.Fatalf("%d chunks, not %d", len(ids), len(texts))
	}
	for i, text := range texts {
		if b, e := s.Get(uint64(i) + 1); e != api.OK || string(b) != text {
			t.Fatalf("chunk %d: %q, %d, not %q", i+1, b, e, text)
		}
	}
}

// fresh is a store on a new device of so many pages.
func fresh(t *testing.T, pages int) (*dev.Dev, *chunk.Store) {
	t.Helper()
	d := dev.New(4 * pages)
	s, e := chunk.Open(d)
	if e != api.OK {
		t.Fatal(e)
	}
	return d, s
}

// wide is a store that doesn't get full.
func wide(t *testing.T) *chunk.Store {
	t.Helper()
	_, s := fresh(t, 16384)
	return s
}

// puts puts a text, whatever it is.
func puts(t *testing.T, s *chunk.Store, text string) uint64 {
	t.Helper()
	id, e := s.Put([]byte(text))
	if e != api.OK {
		t.Fatal(e)
	}
	return id
}

func builds(t *testing.T, s *chunk.Store, l []api.Entry) uint64 {
	t.Helper()
	was := slices.Clone(l)
	root, e := tree.Build(s, l)
	if e != api.OK {
		t.Fatalf("Build of %v: %d", l, e)
	}
	if !slices.Equal(l, was) {
		t.Fatalf("Build changed %v", was)
	}
	return root
}

func buildsNot(t *testing.T, s *chunk.Store, l []api.Entry, want api.Errno) {
	t.Helper()
	if root, e := tree.Build(s, l); root != 0 || e != want {
		t.Fatalf("Build of %d entries: %d, %d, not %d", len(l), root, e, want)
	}
}

// highest Ends at each level, so that whatever stands behind it makes a tree of 21 levels.
const highest = "O02ECOJTZ"

// samples are maps whose trees have all sorts of sizes, by how many levels they have.
func samples() map[string][]api.Entry {
	m := map[string][]api.Entry{
		"nothing":             nil,
		"one entry":           entries("a"),
		"one that Ends":       entries(pick(0, 1, true)...),
		"the greatest":        {{Key: strings.Repeat("k", 40), Val: strings.Repeat("v", 200)}},
		"no value":            {{Key: "\x00"}},
		"one leaf":            entries(pick(0, 9, false)...),
		"one leaf that Ends":  entries(append(pick(0, 3, false), pick(0, 100, true)[99])...),
		"each in a leaf":      entries(pick(0, 30, true)...),
		"two leaves":          entries(append(pick(0, 1, true), pick(0, 100, false)[99])...),
		"twenty-one levels":   entries("A", highest, "x", "y", "z"),
		"twenty-one, alone":   entries(highest, highest+"x"),
		"twenty-one, at last": entries("A", "B", highest),
	}
	for _, n := range []int{2, 3, 5, 10, 20, 40, 100, 200, 400, 1000, 3000} {
		m[strconv.Itoa(n)] = many(n)
	}
	return m
}

func TestExamples(t *testing.T) {
	s := wide(t)
	for _, l := range [][]api.Entry{nil, {}, many(3)[:0]} {
		if root := builds(t, s, l); root != 0 {
			t.Error(root)
		}
	}
	holds(t, s, nil)
}

// P10.1: the nodes, by their bytes, and the order in which they are put, by their numbers.
func TestP10_1Build(t *testing.T) {
	heights := map[int]bool{}
	for name, l := range samples() {
		s, want := wide(t), newShelf()
		root := want.build(l)
		if got := builds(t, s, l); got != root {
			t.Fatalf("%s: root %d, not %d", name, got, root)
		}
		holds(t, s, want.texts())
		heights[want.height] = true
		if again := builds(t, s, l); again != root {
			t.Fatalf("%s: root %d, then %d", name, root, again)
		}
		holds(t, s, want.texts())
	}
	for _, h := range []int{0, 1, 2, 3, 4, 5, 21} {
		if !heights[h] {
			t.Errorf("no tree of %d levels: %v", h, slices.Sorted(maps.Keys(heights)))
		}
	}
}

// P10.1: a map whose nodes are written out.
func TestP10_1Bytes(t *testing.T) {
	// Of these keys just d Ends at level 0.
	s := wide(t)
	l := []api.Entry{{Key: "a", Val: "1"}, {Key: "c"}, {Key: "d", Val: "22"}, {Key: "f"}}
	if root := builds(t, s, l); root != 3 {
		t.Fatal(root)
	}
	holds(t, s, []string{"\x00\x03\x01a\x011\x01c\x00\x01d\x0222", "\x00\x01\x01f\x00", "\x01\x02\x01d\x01\x01f\x02"})
}

// P10.1: in a store that has some of the nodes already, and other texts, those keep their numbers.
func TestP10_1There(t *testing.T) {
	s, want := wide(t), newShelf()
	for _, text := range []string{"x", laid(api.Node{Entries: many(1)}), ""} {
		if puts(t, s, text) != want.put(text) {
			t.Fatal(text)
		}
	}
	for _, n := range []int{3, 400, 1, 399, 0, 250, 401} {
		if got, root := builds(t, s, many(n)), want.build(many(n)); got != root {
			t.Fatalf("%d: root %d, not %d", n, got, root)
		}
		holds(t, s, want.texts())
	}
}

// P10.1: at level 20 all Kids are one node, also those whose keys would End there by their sums.
func TestP10_1Top(t *testing.T) {
	h := fnv.New64a()
	h.Write([]byte{20})
	h.Write([]byte(highest))
	if h.Sum64()/1024%4 != 0 {
		t.Fatal("it doesn't End at level 20")
	}
	s := wide(t)
	root := builds(t, s, entries("A", highest, "x"))
	n, e := tree.Load(s, root)
	if e != api.OK || n.Level != 20 || len(n.Kids) != 2 || n.Kids[0].Last != highest || n.Kids[1].Last != "x" {
		t.Fatalf("%v, %d", n, e)
	}
}

// P10.1, P4: wrong keys and values in order, then keys that don't rise; nothing is put.
func TestP10_1Wrong(t *testing.T) {
	long := strings.Repeat("x", 201)
	a, b, c := api.Entry{Key: "a"}, api.Entry{Key: "b"}, api.Entry{Key: "c", Val: "3"}
	none, key, val, both := api.Entry{}, api.Entry{Key: long[:41]}, api.Entry{Key: "v", Val: long}, api.Entry{Val: long}
	for _, x := range []struct {
		l    []api.Entry
		want api.Errno
	}{
		{[]api.Entry{none}, api.ErrKey},
		{[]api.Entry{key}, api.ErrKey},
		{[]api.Entry{val}, api.ErrValue},
		{[]api.Entry{both}, api.ErrKey},
		{[]api.Entry{a, b, c, key}, api.ErrKey},
		{[]api.Entry{a, b, c, val}, api.ErrValue},
		{[]api.Entry{a, b, both, c}, api.ErrKey},
		{[]api.Entry{val, none}, api.ErrValue},
		{[]api.Entry{none, val}, api.ErrKey},
		{[]api.Entry{a, val, b, key}, api.ErrValue},
		{[]api.Entry{a, key, b, val}, api.ErrKey},
		{[]api.Entry{b, a, none}, api.ErrKey},
		{[]api.Entry{b, a, val}, api.ErrValue},
		{[]api.Entry{a, a, val, none}, api.ErrValue},
		{[]api.Entry{a, a}, api.ErrNode},
		{[]api.Entry{b, a}, api.ErrNode},
		{[]api.Entry{c, b, a}, api.ErrNode},
		{[]api.Entry{a, b, b}, api.ErrNode},
		{[]api.Entry{a, c, b}, api.ErrNode},
		{[]api.Entry{b, a, c}, api.ErrNode},
		{[]api.Entry{c, {Key: "c", Val: "4"}}, api.ErrNode},
		{[]api.Entry{{Key: "a\x00"}, a}, api.ErrNode},
		{[]api.Entry{{Key: "\xff"}, {Key: "z"}}, api.ErrNode},
		{append(many(300), many(1)...), api.ErrNode},
		{append(many(300), many(300)[299]), api.ErrNode},
		{append(many(300), none), api.ErrKey},
		{append(many(300), val, none), api.ErrValue},
	} {
		s := wide(t)
		buildsNot(t, s, x.l, x.want)
		holds(t, s, nil)
		// Whether there is a store comes behind that.
		buildsNot(t, nil, x.l, x.want)
		buildsNot(t, &chunk.Store{}, x.l, x.want)
	}
}

// Keys that rise by one byte, by their length, across a leaf's end.
func TestP10_1Rise(t *testing.T) {
	e, m := pick(0, 1, true)[0], pick(0, 1, false)[0]
	for _, l := range [][]string{{"Z", "a"}, {"10", "9"}, {"a", "a\x00"}, {"z", "\xff"}, {"\x00", "\x00\x00"}, {e, e + "\x00"}, {m, m + "\x00"}} {
		s := wide(t)
		if root := builds(t, s, entries(l...)); root == 0 {
			t.Error(l)
		}
		slices.Reverse(l)
		buildsNot(t, wide(t), entries(l...), api.ErrNode)
		buildsNot(t, wide(t), entries(l[0], l[0]), api.ErrNode)
	}
}

// pages are how many pages a text takes.
func pages(text string) int {
	return max(1, (len(text)+123)/124)
}

// P10.1: a store that gets full, at each node: those ahead of it are put.
func TestP10_1Full(t *testing.T) {
	l := many(60)
	l[30].Val = strings.Repeat("v", 200)
	want := newShelf()
	root := want.build(l)
	all := want.texts()
	full := map[int]bool{}
	for size := 2; ; size++ {
		_, s := fresh(t, size)
		left, n := size-1, 0
		for n < len(all) && pages(all[n]) <= left {
			left -= pages(all[n])
			n++
		}
		full[n] = true
		if n == len(all) {
			if got := builds(t, s, l); got != root || left != 0 {
				t.Fatal(got, left)
			}
			holds(t, s, all)
			// Not a page is free, and what is there needs none.
			if got := builds(t, s, l); got != root {
				t.Fatal(got)
			}
			buildsNot(t, s, entries("new"), api.ErrSpace)
			break
		}
		buildsNot(t, s, l, api.ErrSpace)
		holds(t, s, all[:n])
		s.Abort()
		holds(t, s, nil)
	}
	if len(full) < len(all) || !full[1] || !full[len(want.leaves)] {
		t.Fatal("too few sizes", full)
	}
	// At the first node.
	_, s := fresh(t, 2)
	puts(t, s, "x")
	buildsNot(t, s, l, api.ErrSpace)
	holds(t, s, []string{"x"})
}

// P10.1: a leaf, or a node above it, that is too long for a chunk.
func TestP10_1Long(t *testing.T) {
	for _, front := range []int{0, 50} {
		s := wide(t)
		l := entries(pick(0, front, true)...)
		for _, x := range entries(pick(0, 20_000, false)...) {
			if front == 0 || x.Key > l[front-1].Key {
				l = append(l, x)
			}
		}
		buildsNot(t, s, l, api.ErrLong)
		if n := len(slices.Collect(s.Ids())); n != front {
			t.Errorf("%d leaves are put, not %d", n, front)
		}
	}
	// Each key Ends at level 0, so that it is a leaf, and none at level 1.
	var l []api.Entry
	for i := 1_000_000; len(l) < 4000; i++ {
		k := strconv.Itoa(i) + strings.Repeat("k", 33)
		if ends(0, k) && !ends(1, k) {
			l = append(l, api.Entry{Key: k})
		}
	}
	s := wide(t)
	buildsNot(t, s, l, api.ErrLong)
	if n := len(slices.Collect(s.Ids())); n != 4000 {
		t.Errorf("%d leaves are put", n)
	}
}

// P10.1: stores that nobody made.
func TestP10_1Nobody(t *testing.T) {
	for _, s := range []*chunk.Store{nil, {}} {
		buildsNot(t, s, many(1), api.ErrDev)
		buildsNot(t, s, many(100), api.ErrDev)
		if root, e := tree.Build(s, nil); root != 0 || e != api.OK {
			t.Error(root, e)
		}
	}
}

// P10.1: a device that dies at each of the writes.
func TestP10_1Dies(t *testing.T) {
	l := many(12)
	for n := 0; ; n++ {
		d, s := fresh(t, 100)
		d.Arm(n)
		root, e := tree.Build(s, l)
		if e == api.OK {
			if n < 12 || root == 0 {
				t.Fatal(n, root)
			}
			break
		}
		if root != 0 || e != api.ErrDev || !d.Dead() {
			t.Fatal(n, root, e)
		}
		buildsNot(t, s, l, api.ErrDev)
		d.Crash(api.Fate{Torn: -1})
		buildsNot(t, s, l, api.ErrDev)
	}
}

// What is committed is there when the device is opened anew, under the same root.
func TestP10_4Opened(t *testing.T) {
	d, s := fresh(t, 4000)
	root := builds(t, s, many(500))
	if e := s.Commit(nil); e != api.OK {
		t.Fatal(e)
	}
	d.Crash(api.Fate{Torn: -1})
	s, e := chunk.Open(d)
	if e != api.OK {
		t.Fatal(e)
	}
	lists(t, s, root, many(500))
	if again := builds(t, s, many(500)); again != root {
		t.Fatal(again, root)
	}
}

// P2: what lies behind the list's length is nothing to it, and stays.
func TestP10_1Behind(t *testing.T) {
	l := append(many(50), api.Entry{Val: strings.Repeat("x", 300)}, api.Entry{Key: "a"})
	was := slices.Clone(l)
	s := wide(t)
	root := builds(t, s, l[:50])
	if !slices.Equal(l, was) {
		t.Error("changed")
	}
	lists(t, s, root, many(50))
	for i := range l {
		l[i] = api.Entry{Key: "other"}
	}
	lists(t, s, root, many(50))
}
