package merge_test

import (
	"math/rand"
	"slices"
	"strings"
	"testing"

	"apograph/api"
	"apograph/chunk"
	"apograph/diff"
	"apograph/merge"
	"apograph/node"
	"apograph/tree"
)

// crafts puts a node that is right, whatever its children are.
func crafts(t *testing.T, s *chunk.Store, n api.Node) api.Kid {
	t.Helper()
	b, e := node.Put(n)
	if e != api.OK {
		t.Fatalf("%v: %d", n, e)
	}
	id, e := s.Put(b)
	if e != api.OK {
		t.Fatal(e)
	}
	return api.Kid{Last: node.Last(n), Id: id}
}

func leafOf(t *testing.T, s *chunk.Store, l ...api.Entry) api.Kid {
	t.Helper()
	return crafts(t, s, api.Node{Entries: l})
}

func over(t *testing.T, s *chunk.Store, kids ...api.Kid) uint64 {
	t.Helper()
	return crafts(t, s, api.Node{Level: 1, Kids: kids}).Id
}

// plain is n entries of keys that End at none of the levels that are asked here.
func plain(n int) []api.Entry {
	var l []api.Entry
	for _, x := range pick(1000, false) {
		if !ends(1, x.Key) && !ends(2, x.Key) {
			l = append(l, x)
		}
	}
	return l[:n]
}

// P12.2: a leaf that isn't there, or is no node, is an error where one of two has it alone, and nothing where all three have it.
func TestP12_2BadLeaf(t *testing.T) {
	s := wide(t)
	l := plain(6)
	x, e := s.Put([]byte("x"))
	if e != api.OK {
		t.Fatal(e)
	}
	a, c := leafOf(t, s, l[0], l[1]), leafOf(t, s, l[4], l[5])
	now := api.Entry{Key: l[1].Key, Val: "new"}
	mine, other := leafOf(t, s, l[0], now), leafOf(t, s, l[4])
	whole := over(t, s, a, leafOf(t, s, l[2], l[3]), c)
	nodes := crafts(t, s, api.Node{Level: 1, Kids: []api.Kid{a}})
	for _, bad := range []struct {
		id   uint64
		want api.Errno
	}{{x, api.ErrNode}, {777, api.ErrNone}, {nodes.Id, api.ErrNode}} {
		k := api.Kid{Last: l[3].Key, Id: bad.id}
		root := over(t, s, a, k, c)
		for _, y := range []uint64{0, whole, over(t, s, c)} {
			fails(t, s, root, y, y, bad.want)
			fails(t, s, y, root, y, bad.want)
			fails(t, s, y, y, root, bad.want)
			fails(t, s, root, root, y, bad.want)
			fails(t, s, root, y, root, bad.want)
			fails(t, s, y, root, root, bad.want)
		}
		tells(t, s, root, root, root, nil, nil)
		// All three have it: what else they have is put together.
		tells(t, s, root, over(t, s, mine, k, c), over(t, s, a, k, other), []api.Edit{gone(l[5].Key)}, nil)
		tells(t, s, root, over(t, s, a, k, other), over(t, s, mine, k, c), []api.Edit{put(now.Key, "new")}, nil)
		tells(t, s, root, over(t, s, mine, k, c), over(t, s, k, c), []api.Edit{gone(l[0].Key)}, []api.Clash{{Key: now.Key, Base: has(l[1].Val), Ours: has("new")}})
	}
	// Of ours and theirs that of ours counts.
	gap, no := over(t, s, api.Kid{Last: l[3].Key, Id: 777}), over(t, s, api.Kid{Last: l[3].Key, Id: x})
	fails(t, s, whole, gap, no, api.ErrNone)
	fails(t, s, whole, no, gap, api.ErrNode)
}

// P12.2: trees that have their maps' entries, but not the maps' shape.
func TestP12_2OtherShapes(t *testing.T) {
	s := wide(t)
	l := plain(6)
	now := slices.Clone(l)
	now[0].Val, now[5].Val = "new", "new"
	flat := over(t, s, leafOf(t, s, l[:3]...), leafOf(t, s, l[3:]...))
	other := over(t, s, leafOf(t, s, now[:1]...), leafOf(t, s, now[1:5]...), leafOf(t, s, now[5:]...))
	joins(t, s, l, l, l, builds(t, s, l), flat, flat)
	joins(t, s, l, l[1:], now, flat, builds(t, s, l[1:]), other)
	joins(t, s, l[:4], now, l, over(t, s, leafOf(t, s, l[:4]...)), other, flat)
}

// P12.2: leaves whose keys fall, or stand twice, are no map's: what is told of them rises all the same.
func TestP12_2Fall(t *testing.T) {
	s := wide(t)
	l := plain(4)
	a, b := leafOf(t, s, l[0], l[1]), leafOf(t, s, l[2], l[3])
	high := func(k api.Kid) api.Kid { return api.Kid{Last: l[3].Key + "x", Id: k.Id} }
	roots := []uint64{0, a.Id, b.Id, over(t, s, b, high(a)), over(t, s, a, b, high(a)), over(t, s, a, high(a)), over(t, s, b, high(b))}
	for _, x := range roots {
		for _, y := range roots {
			for _, z := range roots {
				asked(t, s, x, y, z)
			}
		}
	}
}

// wild makes a store of bytes: some leaves, then nodes over whatever there is or comes to be, right or not.
func wild(t *testing.T, b []byte) (*chunk.Store, uint64) {
	t.Helper()
	at := 0
	take := func(below int) int {
		if at == len(b) {
			return 0
		}
		at++
		return int(b[at-1]) % below
	}
	_, s := fresh(t, 100)
	var lasts [20]string
	top := uint64(0)
	for range 10 {
		n := api.Node{Level: max(0, take(5)-2)}
		key := byte('a' + take(4))
		for range 1 + take(3) {
			if n.Level == 0 {
				n.Entries = append(n.Entries, api.Entry{Key: string(key), Val: string('0' + byte(take(2)))})
			} else {
				k := api.Kid{Last: string(key), Id: uint64(1 + take(12))}
				if lasts[k.Id] != "" && take(4) > 0 {
					k.Last = lasts[k.Id]
				}
				n.Kids = append(n.Kids, k)
			}
			key += byte(1 + take(3))
		}
		text, e := node.Put(n)
		if e != api.OK || take(10) == 9 {
			text = []byte("x" + string(key))
		}
		id, e := s.Put(text)
		if e != api.OK {
			t.Fatal(e)
		}
		if _, e := node.Of(text); e == api.OK {
			lasts[id] = node.Last(n)
		}
		top = max(top, id)
	}
	return s, top
}

// listed is a root's map, if it has one.
func listed(s *chunk.Store, root uint64) ([]api.Entry, bool) {
	l, e := tree.List(s, root)
	return l, e == api.OK && slices.Equal(l, list(values(l)))
}

// rises tells whether each key is greater than the one ahead.
func rises[T any](l []T, key func(T) string) bool {
	for i := 1; i < len(l); i++ {
		if key(l[i-1]) >= key(l[i]) {
			return false
		}
	}
	return true
}

// asked asks Trees for the error that diff.Trees tells first, and for keys that rise.
func asked(t *testing.T, s *chunk.Store, x, y, z uint64) ([]api.Edit, []api.Clash, api.Errno) {
	t.Helper()
	_, _, want := diff.Trees(s, x, y)
	if want == api.OK {
		_, _, want = diff.Trees(s, x, z)
	}
	edits, clashes, e := merge.Trees(s, x, y, z)
	if e != want || e != api.OK && (len(edits) != 0 || len(clashes) != 0) {
		t.Fatalf("Trees of %d, %d and %d: %v, %v, %d, not %d", x, y, z, edits, clashes, e, want)
	}
	if !rises(edits, func(x api.Edit) string { return x.Key }) || !rises(clashes, func(x api.Clash) string { return x.Key }) {
		t.Fatalf("Trees of %d, %d and %d: %v, %v", x, y, z, edits, clashes)
	}
	return edits, clashes, e
}

// among asks for what Trees tells of each three of the numbers of a store as roots, and how many of them had maps.
func among(t *testing.T, b []byte) (whole int) {
	t.Helper()
	s, top := wild(t, b)
	var all [][]api.Entry
	var is []bool
	for x := range top + 2 {
		l, ok := listed(s, x)
		all, is = append(all, l), append(is, ok)
	}
	for x := range top + 2 {
		for y := range top + 2 {
			for z := range top + 2 {
				edits, clashes, e := asked(t, s, x, y, z)
				if !is[x] || !is[y] || !is[z] {
					continue
				}
				whole++
				want, too := meant(all[x], all[y], all[z])
				if e != api.OK || !slices.Equal(edits, needed(all[y], want)) || !slices.Equal(clashes, too) {
					t.Fatalf("Trees of %v, %v and %v: %v, %v, %d", all[x], all[y], all[z], edits, clashes, e)
				}
			}
		}
	}
	return whole
}

// P1, P12.2: nodes by chance, of which few are a tree's.
func TestP12_2Wild(t *testing.T) {
	r := rand.New(rand.NewSource(2))
	whole := 0
	for range 100 {
		b := make([]byte, 150)
		r.Read(b)
		whole += among(t, b)
	}
	if whole < 5000 {
		t.Error("too few maps", whole)
	}
}

func FuzzTrees(f *testing.F) {
	r := rand.New(rand.NewSource(3))
	for range 10 {
		b := make([]byte, 150)
		r.Read(b)
		f.Add(b)
	}
	f.Add([]byte(strings.Repeat("\x03\x01\x00", 30)))
	f.Fuzz(func(t *testing.T, b []byte) { among(t, b) })
}
