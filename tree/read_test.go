package tree_test

import (
	"iter"
	"maps"
	"math"
	"reflect"
	"slices"
	"strings"
	"testing"

	"apograph/api"
	"apograph/chunk"
	"apograph/tree"
)

// lists asks for the entries of a tree, and for the same of All.
func lists(t *testing.T, s *chunk.Store, root uint64, want []api.Entry) {
	t.Helper()
	l, e := tree.List(s, root)
	if e != api.OK || !slices.Equal(l, want) {
		t.Fatalf("List of %d: %v, %d, not %v", root, l, e, want)
	}
	if got := told(tree.All(s, root)); !slices.Equal(got, want) {
		t.Fatalf("All of %d: %v, not %v", root, got, want)
	}
}

// listsNot asks for an error, and that nothing is told.
func listsNot(t *testing.T, s *chunk.Store, root uint64, want api.Errno) {
	t.Helper()
	if l, e := tree.List(s, root); len(l) != 0 || e != want {
		t.Fatalf("List of %d: %v, %d, not %d", root, l, e, want)
	}
	if l := told(tree.All(s, root)); len(l) != 0 {
		t.Fatalf("All of %d: %v", root, l)
	}
	if l := told(tree.Range(s, root, "", "")); len(l) != 0 {
		t.Fatalf("Range of %d: %v", root, l)
	}
	if l := told(tree.Range(s, root, "a", "z")); len(l) != 0 {
		t.Fatalf("Range of %d: %v", root, l)
	}
	if id, e := tree.Edit(s, root, nil); id != 0 || e != want {
		t.Fatalf("Edit of %d: %d, %d, not %d", root, id, e, want)
	}
	if id, e := tree.Edit(s, root, []api.Edit{{Key: "k", Val: "v"}}); id != 0 || e != want {
		t.Fatalf("Edit of %d: %d, %d, not %d", root, id, e, want)
	}
}

func told(all iter.Seq2[string, string]) []api.Entry {
	var l []api.Entry
	for k, v := range all {
		l = append(l, api.Entry{Key: k, Val: v})
	}
	return l
}

func gets(t *testing.T, s *chunk.Store, root uint64, key, want string, has bool) {
	t.Helper()
	if v, is, e := tree.Get(s, root, key); v != want || is != has || e != api.OK {
		t.Fatalf("Get of %q: %q, %v, %d, not %q, %v", key, v, is, e, want, has)
	}
}

func getsNot(t *testing.T, s *chunk.Store, root uint64, key string, want api.Errno) {
	t.Helper()
	if v, is, e := tree.Get(s, root, key); v != "" || is || e != want {
		t.Fatalf("Get of %q: %q, %v, %d, not %d", key, v, is, e, want)
	}
}

func leaves(t *testing.T, s *chunk.Store, root uint64, want ...api.Kid) {
	t.Helper()
	if l, e := tree.Leaves(s, root); e != api.OK || !slices.Equal(l, want) {
		t.Fatalf("Leaves of %d: %v, %d, not %v", root, l, e, want)
	}
}

func leavesNot(t *testing.T, s *chunk.Store, root uint64, want api.Errno) {
	t.Helper()
	if l, e := tree.Leaves(s, root); e != want || len(l) != 0 {
		t.Fatalf("Leaves of %d: %v, %d, not %d", root, l, e, want)
	}
}

func nodes(t *testing.T, s *chunk.Store, root uint64, want ...uint64) {
	t.Helper()
	if l, e := tree.Nodes(s, root); e != api.OK || !slices.Equal(l, want) {
		t.Fatalf("Nodes of %d: %v, %d, not %v", root, l, e, want)
	}
}

func nodesNot(t *testing.T, s *chunk.Store, root uint64, want api.Errno) {
	t.Helper()
	if l, e := tree.Nodes(s, root); e != want || len(l) != 0 {
		t.Fatalf("Nodes of %d: %v, %d, not %d", root, l, e, want)
	}
}

func loads(t *testing.T, s *chunk.Store, id uint64, want api.Node) {
	t.Helper()
	if n, e := tree.Load(s, id); e != api.OK || !reflect.DeepEqual(n, want) {
		t.Fatalf("Load of %d: %#v, %d, not %#v", id, n, e, want)
	}
}

func loadsNot(t *testing.T, s *chunk.Store, id uint64, want api.Errno) {
	t.Helper()
	if n, e := tree.Load(s, id); e != want || !reflect.DeepEqual(n, api.Node{}) {
		t.Fatalf("Load of %d: %#v, %d, not %d", id, n, e, want)
	}
}

// failed asks for one error of all that begins with loading the root.
func failed(t *testing.T, s *chunk.Store, root uint64, want api.Errno) {
	t.Helper()
	loadsNot(t, s, root, want)
	for _, key := range []string{"", "a", "k0000", strings.Repeat("z", 50)} {
		getsNot(t, s, root, key, want)
	}
	leavesNot(t, s, root, want)
	nodesNot(t, s, root, want)
	listsNot(t, s, root, want)
}

// near are keys below, between and above those of a map, and those.
func near(l []api.Entry) []string {
	keys := []string{"", "\x00", "a", "zz", "\xff", strings.Repeat("\xff", 40), strings.Repeat("\xff", 41), strings.Repeat("k", 1000)}
	for _, x := range l {
		k := x.Key
		keys = append(keys, k, k+"\x00", k+"z", k[:len(k)-1], k[:len(k)-1]+string([]byte{k[len(k)-1] - 1, 255}))
	}
	return keys
}

// P10.2: all that is told of a tree, at once.
func TestP10_2Samples(t *testing.T) {
	for name, l := range samples() {
		s, want := wide(t), newShelf()
		puts(t, s, "something else")
		want.put("something else")
		root := builds(t, s, l)
		if root != want.build(l) {
			t.Fatal(name, root)
		}
		lists(t, s, root, l)
		leaves(t, s, root, want.leaves...)
		nodes(t, s, root, want.nodes...)
		m := map[string]string{}
		for _, x := range l {
			m[x.Key] = x.Val
		}
		for _, k := range near(l) {
			v, is := m[k]
			gets(t, s, root, k, v, is)
		}
		holds(t, s, want.texts())
	}
}

// P10.2: root 0 is the empty map's, of any store.
func TestP10_2Empty(t *testing.T) {
	_, full := fresh(t, 2)
	puts(t, full, "x")
	d, dead := fresh(t, 20)
	d.Arm(0)
	d.Flush()
	for _, s := range []*chunk.Store{wide(t), full, dead, nil, {}} {
		lists(t, s, 0, nil)
		leaves(t, s, 0)
		nodes(t, s, 0)
		for _, k := range near(many(2)) {
			gets(t, s, 0, k, "", false)
		}
		if l := told(tree.Range(s, 0, "", "")); len(l) != 0 {
			t.Error(l)
		}
		if root, e := tree.Edit(s, 0, nil); root != 0 || e != api.OK {
			t.Error(root, e)
		}
	}
}

func TestP10_2Load(t *testing.T) {
	s := wide(t)
	for _, id := range []uint64{0, 1, 2, 1 << 32, math.MaxUint64} {
		loadsNot(t, s, id, api.ErrNone)
	}
	leaf := api.Node{Entries: entries(pick(0, 3, false)...)}
	one := puts(t, s, laid(leaf))
	last := pick(7, 2, false)
	inner := api.Node{Level: 7, Kids: []api.Kid{{Last: last[0], Id: 99}, {Last: last[1], Id: math.MaxUint64}}}
	two := puts(t, s, laid(inner))
	loads(t, s, one, leaf)
	loads(t, s, two, inner)
	loadsNot(t, s, 0, api.ErrNone)
	for _, id := range []uint64{3, 1 << 32, math.MaxUint64} {
		failed(t, s, id, api.ErrNone)
	}
	for _, text := range []string{"", "x", "\x00\x00", "\x01\x00", laid(leaf) + "\x00", laid(leaf)[1:], laid(api.Node{Entries: entries("b", "a")}), laid(api.Node{Level: 21, Kids: inner.Kids}), laid(api.Node{Level: 1, Kids: []api.Kid{{Last: "a"}}})} {
		failed(t, s, puts(t, s, text), api.ErrNode)
	}
}

// P10.2: stores that nobody made, and one whose device died.
func TestP10_2Dev(t *testing.T) {
	d, dead := fresh(t, 200)
	l := many(100)
	root := builds(t, dead, l)
	d.Arm(0)
	d.Flush()
	failed(t, dead, root, api.ErrDev)
	for _, s := range []*chunk.Store{nil, {}} {
		for _, id := range []uint64{1, 2, root, math.MaxUint64} {
			failed(t, s, id, api.ErrDev)
		}
		loadsNot(t, s, 0, api.ErrDev)
	}
	failed(t, dead, root+1, api.ErrNone)
	d.Crash(api.Fate{Keep: slices.Repeat([]bool{true}, 10_000), Torn: -1})
	lists(t, dead, root, l)
}

// P10.2: a sector that can't be read is told where it is met, and nowhere else.
func TestP10_2Read(t *testing.T) {
	d, s := fresh(t, 400)
	l := many(100)
	root := builds(t, s, l)
	want := newShelf()
	want.build(l)
	at := s.Spans()[want.leaves[5].Id-1].Start
	d.Fault(4*at, true)
	listsNot(t, s, root, api.ErrRead)
	nodesNot(t, s, root, api.ErrRead)
	getsNot(t, s, root, want.leaves[5].Last, api.ErrRead)
	gets(t, s, root, want.leaves[4].Last, "of "+want.leaves[4].Last, true)
	gets(t, s, root, want.leaves[6].Last, "of "+want.leaves[6].Last, true)
	leaves(t, s, root, want.leaves...)
	d.Fault(4*at, false)
	lists(t, s, root, l)
}

// way is the numbers from a root to the leaf that a key leads to; none behind the last key.
func way(nodes map[uint64]api.Node, root uint64, key string) []uint64 {
	var l []uint64
	for id := root; id != 0; {
		l = append(l, id)
		next := uint64(0)
		for _, k := range nodes[id].Kids {
			if k.Last >= key {
				next = k.Id
				break
			}
		}
		id = next
	}
	return l
}

// P10.2: a tree in which one node isn't there, each in turn.
func TestP10_2Missing(t *testing.T) {
	d, s := fresh(t, 400)
	l := many(80)
	root := builds(t, s, l)
	if e := s.Commit(nil); e != api.OK || d.Dead() {
		t.Fatal(e)
	}
	all := map[uint64]api.Node{}
	ids, e := tree.Nodes(s, root)
	if e != api.OK {
		t.Fatal(e)
	}
	for _, id := range ids {
		all[id], _ = tree.Load(s, id)
	}
	for _, gone := range ids {
		if n := s.Keep(func(id uint64) bool { return id != gone }); n != 1 {
			t.Fatal(n)
		}
		loadsNot(t, s, gone, api.ErrNone)
		listsNot(t, s, root, api.ErrNone)
		nodesNot(t, s, root, api.ErrNone)
		if all[gone].Level > 0 {
			leavesNot(t, s, root, api.ErrNone)
		}
		for i, k := range near(l) {
			if i%3 != 0 {
				continue
			}
			if slices.Contains(way(all, root, k), gone) {
				getsNot(t, s, root, k, api.ErrNone)
				continue
			}
			at := slices.IndexFunc(l, func(x api.Entry) bool { return x.Key == k })
			if at < 0 {
				gets(t, s, root, k, "", false)
			} else {
				gets(t, s, root, k, l[at].Val, true)
			}
		}
		s.Abort()
		lists(t, s, root, l)
	}
}

func TestP10_2Range(t *testing.T) {
	s := wide(t)
	l := many(40)
	root := builds(t, s, l)
	var bounds []string
	for i, k := range near(l) {
		if i < 20 || i%7 == 0 {
			bounds = append(bounds, k)
		}
	}
	sizes := map[int]bool{}
	for _, lo := range bounds {
		for _, hi := range bounds {
			var want []api.Entry
			for _, x := range l {
				if strings.Compare(x.Key, lo) >= 0 && (hi == "" || strings.Compare(x.Key, hi) < 0) {
					want = append(want, x)
				}
			}
			sizes[len(want)] = true
			if got := told(tree.Range(s, root, lo, hi)); !slices.Equal(got, want) {
				t.Fatalf("from %q to %q: %v, not %v", lo, hi, got, want)
			}
		}
	}
	if !sizes[0] || !sizes[1] || !sizes[40] || len(sizes) < 15 {
		t.Error("too few", slices.Sorted(maps.Keys(sizes)))
	}
	for _, x := range []struct {
		lo, hi string
		want   int
	}{
		{"", "", 40}, {"k0006", "k0006", 0}, {"k0006", "k0009", 1}, {"k0009", "k0006", 0}, {"k0006", "", 38}, {"", "k0006", 2},
		{"k0007", "k0008", 0}, {"k0005", "k0007", 1}, {"z", "a", 0}, {"", "\x00", 0}, {"k0117", "", 1}, {"k0118", "", 0},
	} {
		if got := told(tree.Range(s, root, x.lo, x.hi)); len(got) != x.want {
			t.Errorf("from %q to %q: %v", x.lo, x.hi, got)
		}
	}
}

// P5: left at once, amid and not at all, and gone through again.
func TestP10_2Left(t *testing.T) {
	s := wide(t)
	l := many(60)
	root := builds(t, s, l)
	for _, x := range []struct {
		all  iter.Seq2[string, string]
		want []api.Entry
	}{
		{tree.All(s, root), l},
		{tree.Range(s, root, "", ""), l},
		{tree.Range(s, root, l[10].Key, l[50].Key), l[10:50]},
		{tree.Range(s, root, l[59].Key, ""), l[59:]},
	} {
		for n := range len(x.want) + 1 {
			var got []api.Entry
			x.all(func(k, v string) bool {
				if len(got) > n {
					t.Fatal("told on when left")
				}
				got = append(got, api.Entry{Key: k, Val: v})
				return len(got) <= n
			})
			if !slices.Equal(got, x.want[:min(n+1, len(x.want))]) {
				t.Fatal(got)
			}
			if got := told(x.all); !slices.Equal(got, x.want) {
				t.Fatal(got)
			}
		}
		// Two at a time, one within the other.
		n := 0
		for k := range x.all {
			for m := range x.all {
				if m == k {
					break
				}
				n++
			}
		}
		if n != len(x.want)*(len(x.want)-1)/2 {
			t.Error(n)
		}
	}
}

// P2: what All and Range tell stays what it was when they were called, and so does what List and the others told.
func TestP10_2Later(t *testing.T) {
	s := wide(t)
	l := many(60)
	root := builds(t, s, l)
	all, some := tree.All(s, root), tree.Range(s, root, l[20].Key, l[40].Key)
	for k := range all {
		if k == l[5].Key {
			s.Abort()
		}
	}
	failed(t, s, root, api.ErrNone)
	builds(t, s, entries("other"))
	if got := told(all); !slices.Equal(got, l) {
		t.Error(got)
	}
	if got := told(some); !slices.Equal(got, l[20:40]) {
		t.Error(got)
	}
}

// P2: answers share no memory with one another, nor with the store.
func TestP10_2Memory(t *testing.T) {
	s, want := wide(t), newShelf()
	l := many(60)
	root := builds(t, s, l)
	want.build(l)
	all := tree.All(s, root)
	one, _ := tree.List(s, root)
	two, _ := tree.List(s, root)
	clear(one[:cap(one)])
	if !slices.Equal(two, l) || !slices.Equal(told(all), l) {
		t.Error("List")
	}
	kids, _ := tree.Leaves(s, root)
	others, _ := tree.Leaves(s, root)
	clear(kids[:cap(kids)])
	if !slices.Equal(others, want.leaves) {
		t.Error("Leaves")
	}
	ids, _ := tree.Nodes(s, root)
	same, _ := tree.Nodes(s, root)
	clear(ids[:cap(ids)])
	if !slices.Equal(same, want.nodes) {
		t.Error("Nodes")
	}
	for _, id := range want.nodes {
		n, _ := tree.Load(s, id)
		m, _ := tree.Load(s, id)
		clear(n.Entries[:cap(n.Entries)])
		clear(n.Kids[:cap(n.Kids)])
		if want.ids[laid(m)] != id {
			t.Error("Load")
		}
	}
	lists(t, s, root, l)
	leaves(t, s, root, want.leaves...)
	nodes(t, s, root, want.nodes...)
	holds(t, s, want.texts())
}
