package diff_test

import (
	"math/rand"
	"slices"
	"strings"
	"testing"

	"apograph/api"
	"apograph/chunk"
	"apograph/diff"
	"apograph/node"
	"apograph/tree"
)

// crafts puts a node that is right, whatever its children are.
func crafts(t *testing.T, s *chunk.Store, n api.Node) api.Kid {
	t.Helper()
	b, e := node.Put(n)
	if e != api.OK {
		t.Fatalf("%v: %d", n, e)
	}
	id, e := s.Put(b)
	if e != api.OK {
		t.Fatal(e)
	}
	return api.Kid{Last: node.Last(n), Id: id}
}

func leafOf(t *testing.T, s *chunk.Store, l ...api.Entry) api.Kid {
	t.Helper()
	return crafts(t, s, api.Node{Entries: l})
}

func over(t *testing.T, s *chunk.Store, level int, kids ...api.Kid) api.Kid {
	t.Helper()
	return crafts(t, s, api.Node{Level: level, Kids: kids})
}

// plain is n entries of keys that End at none of these levels.
func plain(n int, levels ...int) []api.Entry {
	var l []api.Entry
	for _, x := range pick(10_000, false) {
		if !slices.ContainsFunc(levels, func(level int) bool { return ends(level, x.Key) }) {
			l = append(l, x)
		}
	}
	return l[:n]
}

// P11.2: a leaf that isn't there, or is no node, is an error where it is loaded, and nothing where both have it.
func TestP11_2BadLeaf(t *testing.T) {
	s := wide(t)
	l := plain(8, 0, 1, 2)
	x, e := s.Put([]byte("x"))
	if e != api.OK {
		t.Fatal(e)
	}
	a, b, c := leafOf(t, s, l[0], l[1]), leafOf(t, s, l[2], l[3]), leafOf(t, s, l[6], l[7])
	whole := over(t, s, 1, a, b, c)
	for _, bad := range []struct {
		id   uint64
		want api.Errno
	}{{x, api.ErrNode}, {777, api.ErrNone}} {
		k := api.Kid{Last: l[5].Key, Id: bad.id}
		front := api.Kid{Last: l[0].Key, Id: bad.id}
		behind := api.Kid{Last: l[7].Key, Id: bad.id}
		for _, root := range []api.Kid{over(t, s, 1, a, b, k, c), over(t, s, 1, front, b, c), over(t, s, 1, a, b, behind), over(t, s, 1, k), over(t, s, 2, over(t, s, 1, a, b), over(t, s, 1, k, c))} {
			fails(t, s, root.Id, 0, bad.want)
			fails(t, s, root.Id, a.Id, bad.want)
			fails(t, s, root.Id, whole.Id, bad.want)
			told(t, s, root.Id, root.Id, nil, 0)
		}
		// Both have it: what else they have is told.
		told(t, s, over(t, s, 1, a, k, c).Id, over(t, s, 1, b, k, c).Id, meant(l[:2], l[2:4]), 2)
		told(t, s, over(t, s, 1, a, k).Id, over(t, s, 1, k).Id, meant(l[:2], nil), 1)
		// With unlike Lasts it isn't the same leaf.
		fails(t, s, over(t, s, 1, a, k).Id, over(t, s, 1, a, behind).Id, bad.want)
		// Above the leaves there is no passing by.
		high := over(t, s, 2, over(t, s, 1, a, b), k)
		fails(t, s, high.Id, high.Id, bad.want)
		fails(t, s, high.Id, whole.Id, bad.want)
	}
}

// P11.2: leaves are the same by number and Last: not by one of these alone.
func TestP11_2NumberAndLast(t *testing.T) {
	s := wide(t)
	l := plain(6, 0, 1, 2)
	a, b := leafOf(t, s, l[0], l[1]), leafOf(t, s, l[2], l[3])
	as := func(last string, k api.Kid) api.Kid { return api.Kid{Last: last, Id: k.Id} }
	// One number with two Lasts: it is loaded on both sides, and differs in nothing.
	told(t, s, over(t, s, 1, a, b).Id, over(t, s, 1, a, as(l[4].Key, b)).Id, nil, 2)
	told(t, s, over(t, s, 1, as(l[0].Key, a), b).Id, over(t, s, 1, a, as(l[4].Key, b)).Id, nil, 4)
	told(t, s, b.Id, over(t, s, 1, as(l[4].Key, b)).Id, nil, 2)
	told(t, s, b.Id, over(t, s, 1, b).Id, nil, 0)
	// One Last with two numbers.
	now := api.Entry{Key: l[3].Key, Val: "new"}
	c := leafOf(t, s, l[2], now)
	told(t, s, over(t, s, 1, a, b).Id, over(t, s, 1, a, c).Id, []api.Change{changed(now.Key, l[3].Val, "new")}, 2)
}

// P11.2: trees that have their maps' entries, but not the maps' shape.
func TestP11_2OtherShapes(t *testing.T) {
	s := wide(t)
	l := plain(6, 0, 1, 2, 3)
	a, b, c := leafOf(t, s, l[0], l[1]), leafOf(t, s, l[2], l[3]), leafOf(t, s, l[4], l[5])
	one := leafOf(t, s, l...)
	flat, high := over(t, s, 1, a, b, c), over(t, s, 2, over(t, s, 1, a), over(t, s, 1, b, c))
	told(t, s, flat.Id, high.Id, nil, 0)
	told(t, s, flat.Id, over(t, s, 2, flat).Id, nil, 0)
	told(t, s, one.Id, flat.Id, nil, 4)
	told(t, s, builds(t, s, l), over(t, s, 1, one).Id, nil, 0)
	told(t, s, one.Id, a.Id, meant(l, l[:2]), 2)
	told(t, s, flat.Id, a.Id, meant(l, l[:2]), 2)
	told(t, s, high.Id, over(t, s, 1, a, c).Id, meant(l, append(slices.Clone(l[:2]), l[4:]...)), 1)
	told(t, s, over(t, s, 1, a, leafOf(t, s, l[2]), leafOf(t, s, l[3:]...)).Id, flat.Id, nil, 4)
}

// What is told as a leaf but has kids is none: ErrNode, where it is loaded.
func TestP11_2NoLeaf(t *testing.T) {
	s := wide(t)
	l := plain(6, 0, 1, 2)
	a, b := leafOf(t, s, l[0], l[1]), leafOf(t, s, l[2], l[3])
	up := over(t, s, 1, b)
	for _, root := range []api.Kid{over(t, s, 1, a, up), over(t, s, 2, over(t, s, 1, a, up))} {
		fails(t, s, root.Id, 0, api.ErrNode)
		fails(t, s, root.Id, a.Id, api.ErrNode)
		fails(t, s, root.Id, over(t, s, 1, a, b).Id, api.ErrNode)
		told(t, s, root.Id, root.Id, nil, 0)
	}
	told(t, s, over(t, s, 1, a, up).Id, over(t, s, 1, up).Id, meant(l[:2], nil), 1)
}

// wild makes a store of bytes: some leaves, then nodes over whatever there is or comes to be, right or not.
func wild(t *testing.T, b []byte) (*chunk.Store, uint64) {
	t.Helper()
	at := 0
	take := func(below int) int {
		if at == len(b) {
			return 0
		}
		at++
		return int(b[at-1]) % below
	}
	_, s := fresh(t, 100)
	var lasts [20]string
	top := uint64(0)
	for range 12 {
		n := api.Node{Level: max(0, take(5)-2)}
		key := byte('a' + take(4))
		for range 1 + take(3) {
			if n.Level == 0 {
				n.Entries = append(n.Entries, api.Entry{Key: string(key), Val: string('0' + byte(take(2)))})
			} else {
				k := api.Kid{Last: string(key), Id: uint64(1 + take(14))}
				if lasts[k.Id] != "" && take(4) > 0 {
					k.Last = lasts[k.Id]
				}
				n.Kids = append(n.Kids, k)
			}
			key += byte(1 + take(3))
		}
		text, e := node.Put(n)
		if e != api.OK || take(10) == 9 {
			text = []byte("x" + string(key))
		}
		id, e := s.Put(text)
		if e != api.OK {
			t.Fatal(e)
		}
		if _, e := node.Of(text); e == api.OK {
			lasts[id] = node.Last(n)
		}
		top = max(top, id)
	}
	return s, top
}

// listed is a root's map, if it has one.
func listed(s *chunk.Store, root uint64) ([]api.Entry, bool) {
	l, e := tree.List(s, root)
	return l, e == api.OK && slices.Equal(l, sorted(l))
}

// between asks for what Trees tells of each two of the numbers of a store as roots, and how many of them had maps.
func between(t *testing.T, b []byte) (whole int) {
	t.Helper()
	s, top := wild(t, b)
	for x := range top + 2 {
		l, is := listed(s, x)
		for y := range top + 2 {
			m, too := listed(s, y)
			got, n, e := diff.Trees(s, x, y)
			if is && too {
				whole++
				if e != api.OK || !slices.Equal(got, meant(l, m)) {
					t.Fatalf("Trees of %v and %v: %v, %d", l, m, got, e)
				}
			}
			if x == y && n != 0 || e != api.OK && (len(got) != 0 || n != 0) {
				t.Fatal(x, y, got, n, e)
			}
			asLeaves(t, s, x, y, n, e)
		}
	}
	return whole
}

// asLeaves asks for an error where Leaves or a leaf has one that one of the two has alone, and for how many of these there are.
func asLeaves(t *testing.T, s *chunk.Store, x, y uint64, n int, e api.Errno) {
	t.Helper()
	l, first := tree.Leaves(s, x)
	m, second := tree.Leaves(s, y)
	wrong := first != api.OK || second != api.OK
	want := 0
	for _, side := range [][2][]api.Kid{{l, m}, {m, l}} {
		for _, k := range side[0] {
			if slices.Contains(side[1], k) {
				continue
			}
			want++
			leaf, e := tree.Load(s, k.Id)
			wrong = wrong || e != api.OK || leaf.Level != 0
		}
	}
	if wrong != (e != api.OK) || !wrong && n != want {
		t.Fatalf("Trees of %d and %d: %d loaded, %d, not %d, %v", x, y, n, e, want, wrong)
	}
}

// P1, P11.2: nodes by chance, of which few are a tree's.
func TestP11_2Wild(t *testing.T) {
	r := rand.New(rand.NewSource(2))
	whole := 0
	for range 1500 {
		b := make([]byte, 150)
		r.Read(b)
		whole += between(t, b)
	}
	if whole < 20_000 {
		t.Error("too few maps", whole)
	}
}

func FuzzTrees(f *testing.F) {
	r := rand.New(rand.NewSource(3))
	for range 20 {
		b := make([]byte, 150)
		r.Read(b)
		f.Add(b)
	}
	f.Add([]byte(strings.Repeat("\x03\x01\x00", 30)))
	f.Fuzz(func(t *testing.T, b []byte) { between(t, b) })
}
