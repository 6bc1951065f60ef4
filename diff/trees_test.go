package diff_test

import (
	"fmt"
	"hash/fnv"
	"math/rand"
	"slices"
	"strconv"
	"testing"

	"apograph/api"
	"apograph/chunk"
	"apograph/dev"
	"apograph/diff"
	"apograph/tree"
)

// ends tells by the library's FNV-1a whether a key Ends.
func ends(level int, key string) bool {
	h := fnv.New64a()
	h.Write([]byte{byte(level)})
	h.Write([]byte(key))
	return level < 20 && h.Sum64()/1024%4 == 0
}

// highest Ends at each level, so that whatever stands behind it makes a tree of 21 levels.
const highest = "O02ECOJTZ"

// cut is the leaves of a map, each as a text.
func cut(l []api.Entry) []string {
	var leaves []string
	text := ""
	for i, x := range l {
		text += fmt.Sprintf("%q=%q ", x.Key, x.Val)
		if ends(0, x.Key) || i == len(l)-1 {
			leaves = append(leaves, text)
			text = ""
		}
	}
	return leaves
}

// unlike is how many leaves of two maps the other hasn't.
func unlike(a, b []api.Entry) int {
	n, x, y := 0, cut(a), cut(b)
	for _, leaf := range x {
		if !slices.Contains(y, leaf) {
			n++
		}
	}
	for _, leaf := range y {
		if !slices.Contains(x, leaf) {
			n++
		}
	}
	return n
}

// many is n entries with keys that rise.
func many(n int) []api.Entry {
	var l []api.Entry
	for i := range n {
		l = append(l, api.Entry{Key: fmt.Sprintf("k%04d", 3*i), Val: strconv.Itoa(i)})
	}
	return l
}

// pick is n entries with keys that rise, all of which End, or none.
func pick(n int, end bool) []api.Entry {
	var l []api.Entry
	for i := 10_000_000; len(l) < n; i++ {
		if k := strconv.Itoa(i); ends(0, k) == end {
			l = append(l, api.Entry{Key: k, Val: "of " + k})
		}
	}
	return l
}

func fresh(t *testing.T, pages int) (*dev.Dev, *chunk.Store) {
	t.Helper()
	d := dev.New(4 * pages)
	s, e := chunk.Open(d)
	if e != api.OK {
		t.Fatal(e)
	}
	return d, s
}

func wide(t *testing.T) *chunk.Store {
	t.Helper()
	_, s := fresh(t, 16384)
	return s
}

func builds(t *testing.T, s *chunk.Store, l []api.Entry) uint64 {
	t.Helper()
	root, e := tree.Build(s, l)
	if e != api.OK {
		t.Fatalf("Build of %v: %d", l, e)
	}
	return root
}

// told asks Trees for these changes, and for so many leaves that were loaded, both ways round.
func told(t *testing.T, s *chunk.Store, a, b uint64, want []api.Change, n int) {
	t.Helper()
	had := slices.Collect(s.Ids())
	if l, got, e := diff.Trees(s, a, b); e != api.OK || got != n || !slices.Equal(l, want) {
		t.Fatalf("Trees of %d and %d: %v, %d, %d, not %v, %d", a, b, l, got, e, want, n)
	}
	if l, got, e := diff.Trees(s, b, a); e != api.OK || got != n || !slices.Equal(l, diff.Turn(want)) {
		t.Fatalf("Trees of %d and %d: %v, %d, %d, not %v turned, %d", b, a, l, got, e, want, n)
	}
	if !slices.Equal(slices.Collect(s.Ids()), had) {
		t.Fatal("the store was changed")
	}
}

// fails asks Trees for an error, both ways round, with nothing beside it.
func fails(t *testing.T, s *chunk.Store, a, b uint64, want ...api.Errno) {
	t.Helper()
	for _, x := range [][2]uint64{{a, b}, {b, a}} {
		if l, n, e := diff.Trees(s, x[0], x[1]); len(l) != 0 || n != 0 || !slices.Contains(want, e) {
			t.Fatalf("Trees of %d and %d: %v, %d, %d, not %v", x[0], x[1], l, n, e, want)
		}
	}
}

// P11.2 of maps whose leaves are known.
func TestP11_2Trees(t *testing.T) {
	for _, k := range []string{"a", "b", "d", "f", "g"} {
		if ends(0, k) != (k == "d") {
			t.Fatal(k)
		}
	}
	all := of("a=1", "d=2", "f=3", "g=4")
	three := pick(3, true)
	key := func(i int) string { return three[i].Key }
	for _, x := range []struct {
		a, b []api.Entry
		want []api.Change
		n    int
	}{
		{nil, nil, nil, 0},
		{nil, of("a=1"), []api.Change{added("a", "1")}, 1},
		{nil, all, []api.Change{added("a", "1"), added("d", "2"), added("f", "3"), added("g", "4")}, 2},
		{all, all, nil, 0},
		{of("a=1"), of("a=1"), nil, 0},
		// One leaf each.
		{of("a=1"), of("a=2"), []api.Change{changed("a", "1", "2")}, 2},
		{of("a=1"), of("a="), []api.Change{changed("a", "1", "")}, 2},
		{of("a=1"), of("b=1"), []api.Change{taken("a", "1"), added("b", "1")}, 2},
		{of("a=1"), of("a=1", "b=2"), []api.Change{added("b", "2")}, 2},
		{of("a=1", "d=2"), of("d=2"), []api.Change{taken("a", "1")}, 2},
		// What is shared is at the front: a and d, of which one root is just that leaf.
		{all, of("a=1", "d=2", "f=3", "g=5"), []api.Change{changed("g", "4", "5")}, 2},
		{all, of("a=1", "d=2", "f=3"), []api.Change{taken("g", "4")}, 2},
		{all, of("a=1", "d=2"), []api.Change{taken("f", "3"), taken("g", "4")}, 1},
		{of("a=1", "d=2"), of("a=1", "d=2", "g="), []api.Change{added("g", "")}, 1},
		// At the end: f and g.
		{all, of("d=2", "f=3", "g=4"), []api.Change{taken("a", "1")}, 2},
		{all, of("a=1", "b=2", "d=2", "f=3", "g=4"), []api.Change{added("b", "2")}, 2},
		{all, of("f=3", "g=4"), []api.Change{taken("a", "1"), taken("d", "2")}, 1},
		// Nothing, but for the keys: without d all is one leaf.
		{all, of("a=1", "f=3", "g=4"), []api.Change{taken("d", "2")}, 3},
		{all, of("a=2", "d=2", "f=3", "g=5"), []api.Change{changed("a", "1", "2"), changed("g", "4", "5")}, 4},
		// Each key is a leaf: one amid, and the two about it.
		{three, []api.Entry{three[0], {Key: key(1), Val: "new"}, three[2]}, []api.Change{changed(key(1), three[1].Val, "new")}, 2},
		{three, []api.Entry{{Key: key(0), Val: ""}, three[1], {Key: key(2), Val: "new"}}, []api.Change{changed(key(0), three[0].Val, ""), changed(key(2), three[2].Val, "new")}, 4},
		{three, []api.Entry{three[0], three[2]}, []api.Change{taken(key(1), three[1].Val)}, 1},
		{three, three[1:2], []api.Change{taken(key(0), three[0].Val), taken(key(2), three[2].Val)}, 2},
		{three, three[2:], []api.Change{taken(key(0), three[0].Val), taken(key(1), three[1].Val)}, 2},
	} {
		s := wide(t)
		told(t, s, builds(t, s, x.a), builds(t, s, x.b), x.want, x.n)
	}
}

// samples are maps whose trees have all sorts of sizes and heights.
func samples() [][]api.Entry {
	l := [][]api.Entry{
		nil,
		of("a=1"),
		of(highest + "=1"),
		of("a=1", "d=2", "f=3", "g=4"),
		of("A=1", highest+"=1", "x=2", "y="),
		of("A=1", highest+"=1", "x=3", "y="),
		of(highest+"=1", "x=2", "y="),
		of("x=2", "y="),
		pick(30, true),
		pick(29, true),
		pick(30, true)[1:],
		pick(30, false),
		pick(31, false),
	}
	for _, n := range []int{2, 3, 10, 40, 41, 200, 400, 1000, 1001} {
		l = append(l, many(n))
	}
	return append(l, many(400)[200:], many(1000)[300:600])
}

// P11.2: what Of tells of the lists, of all pairs of these maps, and which leaves the other hasn't.
func TestP11_2Pairs(t *testing.T) {
	s := wide(t)
	var roots []uint64
	for _, l := range samples() {
		roots = append(roots, builds(t, s, l))
	}
	heights := map[int]bool{}
	for i, a := range samples() {
		if n, e := tree.Load(s, roots[i]); e == api.OK {
			heights[n.Level] = true
		}
		for j, b := range samples() {
			told(t, s, roots[i], roots[j], meant(a, b), unlike(a, b))
		}
	}
	for _, level := range []int{0, 1, 2, 3, 4, 20} {
		if !heights[level] {
			t.Error("no tree of this height", level, heights)
		}
	}
}

// P11.2: one leaf with another value, wherever it is.
func TestP11_2OneLeaf(t *testing.T) {
	s := wide(t)
	l := many(300)
	root := builds(t, s, l)
	for i := 0; i < len(l); i += 7 {
		next, e := tree.Edit(s, root, []api.Edit{put(l[i].Key, "new")})
		if e != api.OK {
			t.Fatal(e)
		}
		told(t, s, root, next, []api.Change{changed(l[i].Key, l[i].Val, "new")}, 2)
	}
}

// P11.2: rows of edits by chance, each map held against the one ahead and against the first.
func TestP11_2Chance(t *testing.T) {
	r := rand.New(rand.NewSource(3))
	for _, size := range []int{5, 30, 300} {
		s := wide(t)
		l := sorted(chance(r, size))
		root := builds(t, s, l)
		firstRoot, first := root, l
		for range 60 {
			var some []api.Edit
			for range 1 + r.Intn(4) {
				some = append(some, api.Edit{Key: fmt.Sprintf("k%05d", r.Intn(size)), Val: strconv.Itoa(r.Intn(2)), Gone: r.Intn(3) == 0})
			}
			next, e := tree.Edit(s, root, some)
			if e != api.OK {
				t.Fatal(e)
			}
			m := done(l, some)
			told(t, s, root, next, meant(l, m), unlike(l, m))
			told(t, s, firstRoot, next, meant(first, m), unlike(first, m))
			l, root = m, next
		}
	}
}

// spans is the pages of each chunk.
func spans(t *testing.T, s *chunk.Store) map[uint64]api.Span {
	t.Helper()
	m := map[uint64]api.Span{}
	l := s.Spans()
	for id := range s.Ids() {
		m[id] = l[len(m)]
	}
	return m
}

// fault lays a fault on a chunk's pages, or takes it away.
func fault(d *dev.Dev, at api.Span, on bool) {
	for i := range 4 * at.Pages {
		d.Fault(4*at.Start+i, on)
	}
}

// P11.2, P11.4: leaves that both have aren't loaded, so that it is nothing to Trees if they can't be read; each of the others is.
func TestP11_4Skipped(t *testing.T) {
	d, s := fresh(t, 16384)
	l := many(300)
	changes := []api.Edit{put(l[0].Key, "new"), put(l[150].Key, "new"), gone(l[151].Key), put("z", "last")}
	m := done(l, changes)
	a, b := builds(t, s, l), builds(t, s, m)
	at := spans(t, s)
	x, _ := tree.Leaves(s, a)
	y, _ := tree.Leaves(s, b)
	shared, others := 0, 0
	for _, k := range append(slices.Clone(x), y...) {
		fault(d, at[k.Id], true)
		if slices.Contains(x, k) && slices.Contains(y, k) {
			shared++
			told(t, s, a, b, meant(l, m), unlike(l, m))
		} else {
			others++
			fails(t, s, a, b, api.ErrRead)
		}
		told(t, s, a, a, nil, 0)
		told(t, s, b, b, nil, 0)
		fault(d, at[k.Id], false)
	}
	if others != unlike(l, m) || shared < 50 {
		t.Fatal(shared, others)
	}
	// All that is shared at once, and all leaves, of a tree and the same.
	for _, k := range x {
		fault(d, at[k.Id], slices.Contains(y, k))
	}
	told(t, s, a, b, meant(l, m), unlike(l, m))
	for _, k := range x {
		fault(d, at[k.Id], true)
	}
	told(t, s, a, a, nil, 0)
	fails(t, s, a, b, api.ErrRead)
	fails(t, s, a, 0, api.ErrRead)
	told(t, s, 0, 0, nil, 0)
}

// P11.4: of a tree and the same, of any size.
func TestP11_4Same(t *testing.T) {
	s := wide(t)
	for _, l := range samples() {
		told(t, s, builds(t, s, l), builds(t, s, l), nil, 0)
	}
}

// A root that is no tree's, on either side, and on both.
func TestP11_2Root(t *testing.T) {
	s := wide(t)
	good := builds(t, s, many(50))
	bad, e := s.Put([]byte("x"))
	if e != api.OK {
		t.Fatal(e)
	}
	for _, x := range []struct {
		id   uint64
		want api.Errno
	}{{bad, api.ErrNode}, {bad + 1, api.ErrNone}, {1<<64 - 1, api.ErrNone}} {
		for _, other := range []uint64{0, good, x.id} {
			fails(t, s, x.id, other, x.want)
		}
	}
	fails(t, s, bad, bad+1, api.ErrNode, api.ErrNone)
}

// Stores that nobody made, and one whose device died: ErrDev, but of the empty map and itself.
func TestP11_2Nobody(t *testing.T) {
	d, dead := fresh(t, 1000)
	root := builds(t, dead, many(20))
	d.Arm(0)
	if _, e := dead.Put([]byte("x")); e != api.ErrDev {
		t.Fatal(e)
	}
	for _, s := range []*chunk.Store{nil, {}, dead} {
		told(t, s, 0, 0, nil, 0)
		for _, x := range []uint64{0, 1, root, 1 << 63} {
			fails(t, s, root, x, api.ErrDev)
			fails(t, s, 1, x, api.ErrDev)
		}
	}
	// The device alone is dead: the store hasn't met that.
	d, s := fresh(t, 1000)
	a, b := builds(t, s, many(20)), builds(t, s, many(21))
	d.Arm(0)
	d.Flush()
	fails(t, s, a, b, api.ErrDev)
	fails(t, s, a, a, api.ErrDev)
	told(t, s, 0, 0, nil, 0)
}

// What is committed differs likewise when the device is opened anew.
func TestP11_2Opened(t *testing.T) {
	d, s := fresh(t, 4000)
	l, m := many(100), many(101)
	a, b := builds(t, s, l), builds(t, s, m)
	if e := s.Commit(nil); e != api.OK {
		t.Fatal(e)
	}
	d.Crash(api.Fate{Torn: -1})
	s, e := chunk.Open(d)
	if e != api.OK {
		t.Fatal(e)
	}
	told(t, s, a, b, meant(l, m), unlike(l, m))
}

// P2: two answers share nothing, and the store keeps none of them.
func TestP2Trees(t *testing.T) {
	s := wide(t)
	l, m := many(100), many(120)
	a, b := builds(t, s, l), builds(t, s, m)
	x, _, _ := diff.Trees(s, a, b)
	y, _, _ := diff.Trees(s, a, b)
	clear(y[:cap(y)])
	if !slices.Equal(x, meant(l, m)) {
		t.Error(x)
	}
	told(t, s, a, b, meant(l, m), unlike(l, m))
}
