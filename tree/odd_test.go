package tree_test

import (
	"maps"
	"math/rand"
	"slices"
	"strings"
	"testing"

	"apograph/api"
	"apograph/chunk"
	"apograph/node"
	"apograph/tree"
)

// crafts puts a node that is right, whatever its children are.
func crafts(t *testing.T, s *chunk.Store, n api.Node) uint64 {
	t.Helper()
	b, e := node.Put(n)
	if e != api.OK {
		t.Fatalf("%v: %d", n, e)
	}
	return puts(t, s, string(b))
}

// leafOf is a leaf of these keys.
func leafOf(t *testing.T, s *chunk.Store, keys ...string) api.Kid {
	t.Helper()
	return api.Kid{Last: keys[len(keys)-1], Id: crafts(t, s, api.Node{Entries: entries(keys...)})}
}

// over is a node of Kids.
func over(t *testing.T, s *chunk.Store, level int, kids ...api.Kid) api.Kid {
	t.Helper()
	return api.Kid{Last: kids[len(kids)-1].Last, Id: crafts(t, s, api.Node{Level: level, Kids: kids})}
}

// none is n keys of 8 bytes, rising, of which none Ends at any of these levels.
func none(n int, levels ...int) []string {
	var l []string
	for _, k := range pick(0, 100_000, false) {
		if !slices.ContainsFunc(levels, func(level int) bool { return ends(level, k) }) {
			l = append(l, k)
		}
		if len(l) == n {
			return l
		}
	}
	panic("too few keys")
}

// P10.2: a child that is no node, or isn't there, is met on its own ways alone.
func TestP10_2BadChild(t *testing.T) {
	s := wide(t)
	k := none(9, 0, 1, 2)
	x := puts(t, s, "x")
	good := leafOf(t, s, k[0], k[1])
	root := over(t, s, 1, good, api.Kid{Last: k[3], Id: x}, api.Kid{Last: k[5], Id: 777}).Id
	for _, id := range []uint64{root, over(t, s, 2, api.Kid{Last: k[5], Id: root}).Id} {
		gets(t, s, id, k[0], "of "+k[0], true)
		gets(t, s, id, k[1], "of "+k[1], true)
		gets(t, s, id, "", "", false)
		gets(t, s, id, k[0]+"+", "", false)
		getsNot(t, s, id, k[1]+"+", api.ErrNode)
		getsNot(t, s, id, k[2], api.ErrNode)
		getsNot(t, s, id, k[3], api.ErrNode)
		getsNot(t, s, id, k[3]+"+", api.ErrNone)
		getsNot(t, s, id, k[5], api.ErrNone)
		gets(t, s, id, k[5]+"+", "", false)
		gets(t, s, id, k[6], "", false)
		listsNot(t, s, id, api.ErrNode)
		nodesNot(t, s, id, api.ErrNode)
		leaves(t, s, id, good, api.Kid{Last: k[3], Id: x}, api.Kid{Last: k[5], Id: 777})
	}
	// From the left: here the one that isn't there comes first.
	root = over(t, s, 1, good, api.Kid{Last: k[3], Id: 777}, api.Kid{Last: k[5], Id: x}).Id
	listsNot(t, s, root, api.ErrNone)
	nodesNot(t, s, root, api.ErrNone)
	// Above the leaves Leaves meets it, too.
	deep := over(t, s, 1, good)
	listsNot(t, s, over(t, s, 2, deep, api.Kid{Last: k[3], Id: x}).Id, api.ErrNode)
	leavesNot(t, s, over(t, s, 2, deep, api.Kid{Last: k[3], Id: x}).Id, api.ErrNode)
	leavesNot(t, s, over(t, s, 2, deep, api.Kid{Last: k[3], Id: 777}, api.Kid{Last: k[4], Id: x}).Id, api.ErrNone)
}

// P10.2: a child of another level than is told, or with another Last: ErrNode of List, wherever it stands. Get, Leaves and Nodes don't ask for that.
func TestP10_2NotAsTold(t *testing.T) {
	s := wide(t)
	k := none(9, 0, 1, 2, 3)
	a, b, c := leafOf(t, s, k[0], k[1]), leafOf(t, s, k[2], k[3]), leafOf(t, s, k[4], k[5])
	up := over(t, s, 1, b)
	as := func(last string, x api.Kid) api.Kid { return api.Kid{Last: last, Id: x.Id} }
	all := entries(k[:6]...)
	lists(t, s, over(t, s, 1, a, b, c).Id, all)
	lists(t, s, over(t, s, 2, over(t, s, 1, a), up, over(t, s, 1, c)).Id, all)
	for _, x := range []struct {
		name string
		root api.Kid
		ids  []uint64
	}{
		{"level 1 under level 1", over(t, s, 1, a, up, c), []uint64{a.Id, up.Id, b.Id, c.Id}},
		{"leaves under level 2", over(t, s, 2, a, b, c), []uint64{a.Id, b.Id, c.Id}},
		{"a leaf under level 2", over(t, s, 2, over(t, s, 1, a), b, over(t, s, 1, c)), nil},
		{"leaves under level 20", over(t, s, 20, a, b, c), []uint64{a.Id, b.Id, c.Id}},
		{"level 1 under level 3", over(t, s, 3, over(t, s, 1, a, b), over(t, s, 1, c)), nil},
		{"level 2 under level 1", over(t, s, 1, a, b, as(k[5], over(t, s, 2, over(t, s, 1, c)))), nil},
		{"level 2 under level 2", over(t, s, 2, over(t, s, 1, a, b), over(t, s, 2, over(t, s, 1, c))), nil},
		{"the first Last below", over(t, s, 1, as(k[0], a), b, c), []uint64{a.Id, b.Id, c.Id}},
		{"the first Last above", over(t, s, 1, as(k[2], a), b, c), []uint64{a.Id, b.Id, c.Id}},
		{"the last Last below", over(t, s, 1, a, b, as(k[4], c)), []uint64{a.Id, b.Id, c.Id}},
		{"the last Last above", over(t, s, 1, a, b, as(k[6], c)), []uint64{a.Id, b.Id, c.Id}},
		{"a leaf twice in a node", over(t, s, 1, a, as(k[3], a), c), []uint64{a.Id, c.Id}},
		{"a Last of level 1", over(t, s, 2, over(t, s, 1, a, b), as(k[6], over(t, s, 1, c))), nil},
		{"a Last under level 1", over(t, s, 2, over(t, s, 1, a, b), over(t, s, 1, as(k[6], c))), nil},
	} {
		listsNot(t, s, x.root.Id, api.ErrNode)
		listsNot(t, s, over(t, s, 5, x.root).Id, api.ErrNode)
		if x.ids != nil {
			x.ids = append(x.ids, x.root.Id)
			slices.Sort(x.ids)
			nodes(t, s, x.root.Id, x.ids...)
		}
		gets(t, s, x.root.Id, k[0], "of "+k[0], true)
	}
	gets(t, s, over(t, s, 2, a, b, c).Id, k[4], "of "+k[4], true)
	gets(t, s, over(t, s, 1, a, up, c).Id, k[3], "of "+k[3], true)
	// The way goes by what is told: k[1] isn't looked for in a.
	gets(t, s, over(t, s, 1, as(k[0], a), b, c).Id, k[1], "", false)
	leaves(t, s, over(t, s, 2, a, over(t, s, 1, b, c)).Id, a, b, c)
	leaves(t, s, over(t, s, 1, as(k[0], a), b, c).Id, as(k[0], a), b, c)
}

// next is the number of the text that is put next.
func next(s *chunk.Store) uint64 {
	n := uint64(1)
	for id := range s.Ids() {
		n = id + 1
	}
	return n
}

// P1: ways without an end. A node that stands under itself is no tree's.
func TestP1Round(t *testing.T) {
	s := wide(t)
	k := none(4, 0, 1, 2, 20)
	for _, level := range []int{1, 2, 20} {
		self := next(s)
		x := over(t, s, level, api.Kid{Last: k[0], Id: self})
		if x.Id != self {
			t.Fatal(x)
		}
		listsNot(t, s, self, api.ErrNode)
		getsNot(t, s, self, k[0], api.ErrNode)
		getsNot(t, s, self, "", api.ErrNode)
		gets(t, s, self, k[1], "", false)
		nodes(t, s, self, self)
		if level > 1 {
			leavesNot(t, s, self, api.ErrNode)
		} else {
			leaves(t, s, self, api.Kid{Last: k[0], Id: self})
		}
	}
	// Two that stand under each other, with a leaf ahead.
	a := leafOf(t, s, k[0])
	first := next(s)
	over(t, s, 2, a, api.Kid{Last: k[2], Id: first + 1})
	over(t, s, 2, a, api.Kid{Last: k[3], Id: first})
	gets(t, s, first, k[0], "of "+k[0], true)
	getsNot(t, s, first, k[1], api.ErrNode)
	leavesNot(t, s, first, api.ErrNode)
	listsNot(t, s, first, api.ErrNode)
	nodes(t, s, first, a.Id, first, first+1)
	nodes(t, s, first+1, a.Id, first, first+1)
}

// A node that stands twice in a tree, under unlike nodes: List tells it as often, Nodes once. No map has such a tree, so there is none to edit.
func TestP10_2Twice(t *testing.T) {
	s := wide(t)
	k := none(9, 0, 1, 2, 3)
	a, b := leafOf(t, s, k[0], k[1]), leafOf(t, s, k[2], k[3])
	one, two := over(t, s, 1, a), over(t, s, 1, a, b)
	root := over(t, s, 2, one, two).Id
	l := append(entries(k[:2]...), entries(k[:4]...)...)
	lists(t, s, root, l)
	leaves(t, s, root, a, a, b)
	nodes(t, s, root, a.Id, b.Id, one.Id, two.Id, root)
	if got := told(tree.Range(s, root, k[1], k[3])); !slices.Equal(got, []api.Entry{l[1], l[3], l[4]}) {
		t.Error(got)
	}
	gets(t, s, root, k[0], l[0].Val, true)
	gets(t, s, root, k[3], l[5].Val, true)
	// And likewise higher up.
	twice := api.Kid{Last: k[3], Id: root}
	c := leafOf(t, s, k[4])
	high := over(t, s, 4, over(t, s, 3, twice), over(t, s, 3, twice, over(t, s, 2, over(t, s, 1, c)))).Id
	leaves(t, s, high, a, a, b, a, a, b, c)
	lists(t, s, high, slices.Concat(l, l, entries(k[4])))
	had := len(slices.Collect(s.Ids()))
	editsNot(t, s, root, api.ErrNode)
	editsNot(t, s, root, api.ErrNode, put("a", "1"))
	editsNot(t, s, root, api.ErrKey, put("", "1"))
	if len(slices.Collect(s.Ids())) != had {
		t.Error("something was put")
	}
	// As often as there are ways, which are too many to go.
	x := over(t, s, 5, two)
	ids := []uint64{a.Id, b.Id, two.Id, x.Id}
	for range 100 {
		x = over(t, s, 5, api.Kid{Last: k[4], Id: x.Id}, api.Kid{Last: k[5], Id: x.Id}, api.Kid{Last: k[6], Id: x.Id})
		ids = append(ids, x.Id)
	}
	nodes(t, s, x.Id, ids...)
	listsNot(t, s, x.Id, api.ErrNode)
}

// P10.4: a tree that has its map's entries, but another shape, is by an Edit the one that the map has.
func TestP10_4OtherShapes(t *testing.T) {
	s := wide(t)
	k := none(6, 0, 1, 2, 3, 20)
	a, b, c := leafOf(t, s, k[0]), leafOf(t, s, k[1], k[2]), leafOf(t, s, k[3], k[4])
	all := entries(k[:5]...)
	want := builds(t, s, all)
	high := over(t, s, 1, a, b, c)
	for level := 2; level <= 20; level++ {
		high = over(t, s, level, high)
	}
	shapes := map[uint64]bool{want: true}
	for _, x := range []api.Kid{
		over(t, s, 1, a, b, c),
		over(t, s, 1, leafOf(t, s, k[:5]...)),
		over(t, s, 2, over(t, s, 1, a), over(t, s, 1, b, c)),
		over(t, s, 2, over(t, s, 1, a, b, c)),
		high,
	} {
		if shapes[x.Id] {
			t.Fatal("no other shape")
		}
		shapes[x.Id] = true
		lists(t, s, x.Id, all)
		if got := edits(t, s, x.Id); got != want {
			t.Fatal(got, want)
		}
		if got := edits(t, s, x.Id, gone("none")); got != want {
			t.Fatal(got, want)
		}
		y := put(k[1], "new")
		if got := edits(t, s, x.Id, y); got != builds(t, s, done(all, y)) {
			t.Fatal(got)
		}
	}
	// One leaf that is right amid others that aren't is kept, also where its Last is the one of a leaf that comes to be.
	e, m := pick(0, 40, true), none(50, 0, 1)
	keys := append(slices.Clone(m), e...)
	slices.Sort(keys)
	var kids []api.Kid
	for _, key := range keys[:20] {
		if ends(1, key) {
			continue
		}
		kids = append(kids, leafOf(t, s, key))
	}
	root := over(t, s, 1, kids...).Id
	l, _ := tree.List(s, root)
	if len(l) < 10 || edits(t, s, root) != builds(t, s, l) || builds(t, s, l) == root {
		t.Fatal(l)
	}
}

// wild is a store of nodes by chance, as its numbers mean them; those of texts that are no nodes are missing.
type wild struct {
	s     *chunk.Store
	nodes map[uint64]api.Node
	last  uint64
}

// grow makes a store of bytes: some leaves, then nodes over whatever there is or comes to be.
func grow(t *testing.T, b []byte) wild {
	t.Helper()
	at := 0
	take := func(below int) int {
		if at == len(b) {
			return 0
		}
		at++
		return int(b[at-1]) % below
	}
	_, s := fresh(t, 100)
	w := wild{s: s, nodes: map[uint64]api.Node{}}
	for range 12 {
		n := api.Node{Level: max(0, take(6)-2)}
		key := byte('a' + take(4))
		for range 1 + take(3) {
			if n.Level == 0 {
				n.Entries = append(n.Entries, api.Entry{Key: string(key), Val: string('0' + byte(take(2)))})
			} else {
				id := uint64(1 + take(14))
				k := api.Kid{Last: string(key), Id: id}
				if m, is := w.nodes[id]; is && take(4) > 0 {
					k.Last = node.Last(m)
				}
				n.Kids = append(n.Kids, k)
			}
			key += byte(1 + take(3))
		}
		text := laid(n)
		if take(10) == 9 {
			text = "x" + text
		}
		id := puts(t, s, text)
		if m, e := node.Of([]byte(text)); e == api.OK {
			w.nodes[id] = m
		}
		w.last = max(w.last, id)
	}
	return w
}

func (w wild) load(id uint64) (api.Node, api.Errno) {
	if n, is := w.nodes[id]; is {
		return n, api.OK
	}
	if id == 0 || id > w.last {
		return api.Node{}, api.ErrNone
	}
	return api.Node{}, api.ErrNode
}

func (w wild) get(id uint64, key string, steps int) (string, bool, api.Errno) {
	if id == 0 {
		return "", false, api.OK
	}
	n, e := w.load(id)
	if e != api.OK {
		return "", false, e
	}
	if steps > 100 { // more than there are nodes
		return "", false, api.ErrNode
	}
	for _, x := range n.Entries {
		if x.Key == key {
			return x.Val, true, api.OK
		}
	}
	for _, k := range n.Kids {
		if k.Last >= key {
			return w.get(k.Id, key, steps+1)
		}
	}
	return "", false, api.OK
}

func (w wild) list(id uint64) ([]api.Entry, api.Errno) {
	if id == 0 {
		return nil, api.OK
	}
	n, e := w.load(id)
	if e != api.OK {
		return nil, e
	}
	l := slices.Clone(n.Entries)
	for _, k := range n.Kids {
		m, e := w.load(k.Id)
		if e != api.OK {
			return nil, e
		}
		if m.Level+1 != n.Level || node.Last(m) != k.Last {
			return nil, api.ErrNode
		}
		more, e := w.list(k.Id)
		if e != api.OK {
			return nil, e
		}
		l = append(l, more...)
	}
	return l, api.OK
}

// reach is all numbers that a root leads to, and whether each of them is a node.
func (w wild) reach(root uint64) ([]uint64, bool) {
	seen, all := map[uint64]bool{root: true}, true
	for n := -1; n != len(seen); {
		n = len(seen)
		for _, id := range slices.Sorted(maps.Keys(seen)) {
			m, e := w.load(id)
			all = all && e == api.OK
			for _, k := range m.Kids {
				seen[k.Id] = true
			}
		}
	}
	return slices.Sorted(maps.Keys(seen)), all
}

// held asks for all that is told of each number as a root, as the nodes mean it.
func held(t *testing.T, b []byte) (whole int) {
	t.Helper()
	w := grow(t, b)
	for id := range w.last + 3 {
		n, e := w.load(id)
		if e == api.OK {
			loads(t, w.s, id, n)
		} else {
			loadsNot(t, w.s, id, e)
		}
		for _, key := range []string{"", "`", "a", "b", "c", "d", "e", "f", "g", "h", "i", "j", "zz"} {
			v, is, e := w.get(id, key, 0)
			if e == api.OK {
				gets(t, w.s, id, key, v, is)
			} else {
				getsNot(t, w.s, id, key, e)
			}
		}
		if id == 0 {
			continue
		}
		if all, is := w.reach(id); is {
			nodes(t, w.s, id, all...)
		} else if l, e := tree.Nodes(w.s, id); e != api.ErrNode && e != api.ErrNone || len(l) != 0 {
			t.Fatal(l, e)
		}
		l, e := w.list(id)
		kids, wrong := tree.Leaves(w.s, id)
		if e != api.OK {
			listsNot(t, w.s, id, e)
			if wrong != api.OK && len(kids) != 0 {
				t.Fatal(kids, wrong)
			}
			continue
		}
		lists(t, w.s, id, l)
		var under []api.Entry
		for _, k := range kids {
			if node.Last(w.nodes[k.Id]) != k.Last {
				t.Fatal(kids)
			}
			under = append(under, w.nodes[k.Id].Entries...)
		}
		if wrong != api.OK || !slices.Equal(under, l) {
			t.Fatal(kids, wrong)
		}
		whole += rebuilt(t, w.s, id, l)
	}
	return whole
}

// rebuilt asks for the map's own root of an Edit, whatever shape the root has that it is given, and takes back what was put.
func rebuilt(t *testing.T, s *chunk.Store, root uint64, l []api.Entry) (whole int) {
	t.Helper()
	if e := s.Commit(nil); e != api.OK {
		t.Fatal(e)
	}
	defer s.Abort()
	for i := 1; i < len(l); i++ {
		if l[i-1].Key >= l[i].Key {
			editsNot(t, s, root, api.ErrNode)
			return 0
		}
	}
	if got := edits(t, s, root); got != builds(t, s, l) {
		t.Fatal(got)
	}
	if got := edits(t, s, root, put("c", "new")); got != builds(t, s, done(l, put("c", "new"))) {
		t.Fatal(got)
	}
	return 1
}

func TestP10_2Wild(t *testing.T) {
	r := rand.New(rand.NewSource(2))
	whole := 0
	for range 4000 {
		b := make([]byte, 150)
		r.Read(b)
		whole += held(t, b)
	}
	if whole < 1000 {
		t.Error("too few trees", whole)
	}
}

func FuzzNodes(f *testing.F) {
	r := rand.New(rand.NewSource(3))
	for range 20 {
		b := make([]byte, 150)
		r.Read(b)
		f.Add(b)
	}
	f.Add([]byte(strings.Repeat("\x03\x01\x00", 30)))
	f.Fuzz(func(t *testing.T, b []byte) { held(t, b) })
}
