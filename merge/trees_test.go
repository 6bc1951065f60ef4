package merge_test

import (
	"fmt"
	"hash/fnv"
	"maps"
	"math/rand"
	"slices"
	"strconv"
	"strings"
	"testing"

	"apograph/api"
	"apograph/chunk"
	"apograph/dev"
	"apograph/merge"
	"apograph/tree"
)

// ends tells by the library's FNV-1a whether a key Ends.
func ends(level int, key string) bool {
	h := fnv.New64a()
	h.Write([]byte{byte(level)})
	h.Write([]byte(key))
	return level < 20 && h.Sum64()/1024%4 == 0
}

// highest Ends at each level, so that whatever stands behind it makes a tree of 21 levels.
const highest = "O02ECOJTZ"

// many is n entries with keys that rise.
func many(n int) []api.Entry {
	var l []api.Entry
	for i := range n {
		l = append(l, api.Entry{Key: fmt.Sprintf("k%04d", 3*i), Val: strconv.Itoa(i)})
	}
	return l
}

// pick is n entries with keys that rise, all of which End, or none.
func pick(n int, end bool) []api.Entry {
	var l []api.Entry
	for i := 10_000_000; len(l) < n; i++ {
		if k := strconv.Itoa(i); ends(0, k) == end {
			l = append(l, api.Entry{Key: k, Val: "of " + k})
		}
	}
	return l
}

func fresh(t *testing.T, pages int) (*dev.Dev, *chunk.Store) {
	t.Helper()
	d := dev.New(4 * pages)
	s, e := chunk.Open(d)
	if e != api.OK {
		t.Fatal(e)
	}
	return d, s
}

func wide(t *testing.T) *chunk.Store {
	t.Helper()
	_, s := fresh(t, 16384)
	return s
}

func builds(t *testing.T, s *chunk.Store, l []api.Entry) uint64 {
	t.Helper()
	root, e := tree.Build(s, l)
	if e != api.OK {
		t.Fatalf("Build of %v: %d", l, e)
	}
	return root
}

func put(key, val string) api.Edit {
	return api.Edit{Key: key, Val: val}
}

func gone(key string) api.Edit {
	return api.Edit{Key: key, Gone: true}
}

// needed is the edits that let a map become another, just these.
func needed(from, to []api.Entry) []api.Edit {
	a, b := values(from), values(to)
	all := maps.Clone(a)
	maps.Copy(all, b)
	var l []api.Edit
	for _, k := range slices.Sorted(maps.Keys(all)) {
		v, is := strings.CutPrefix(b[k], "=")
		if a[k] != b[k] {
			l = append(l, api.Edit{Key: k, Val: v, Gone: !is})
		}
	}
	return l
}

// tells asks Trees for these edits and clashes, and for a store that stays as it is.
func tells(t *testing.T, s *chunk.Store, base, ours, theirs uint64, want []api.Edit, clashes []api.Clash) {
	t.Helper()
	had := slices.Collect(s.Ids())
	l, c, e := merge.Trees(s, base, ours, theirs)
	if e != api.OK || !slices.Equal(l, want) || !slices.Equal(c, clashes) {
		t.Fatalf("Trees of %d, %d and %d: %v, %v, %d, not %v, %v", base, ours, theirs, l, c, e, want, clashes)
	}
	if !slices.Equal(slices.Collect(s.Ids()), had) {
		t.Fatal("the store was changed")
	}
}

// fails asks Trees for an error, with nothing beside it.
func fails(t *testing.T, s *chunk.Store, base, ours, theirs uint64, want api.Errno) {
	t.Helper()
	if l, c, e := merge.Trees(s, base, ours, theirs); len(l) != 0 || len(c) != 0 || e != want {
		t.Fatalf("Trees of %d, %d and %d: %v, %v, %d, not %d", base, ours, theirs, l, c, e, want)
	}
}

// joins asks for what Trees tells of the roots of three maps, both ways round, and of one side alone.
func joins(t *testing.T, s *chunk.Store, base, ours, theirs []api.Entry, x, y, z uint64) {
	t.Helper()
	want, clashes := meant(base, ours, theirs)
	tells(t, s, x, y, z, needed(ours, want), clashes)
	back, again := meant(base, theirs, ours)
	if !slices.Equal(again, turned(clashes)) || len(clashes) == 0 && !slices.Equal(back, want) {
		t.Fatal("as it is meant it isn't the same both ways", again, clashes)
	}
	tells(t, s, x, z, y, needed(theirs, back), again)
	tells(t, s, x, y, x, nil, nil)
	tells(t, s, x, x, z, needed(base, theirs), nil)
	tells(t, s, x, y, y, nil, nil)
}

// P12.2: what must be edited of ours, and nothing else.
func TestP12_2Trees(t *testing.T) {
	three := of("b=2", "d=4", "f=6")
	for _, x := range []struct {
		base, ours, theirs []api.Entry
		want               []api.Edit
		clashes            []api.Clash
	}{
		{nil, nil, nil, nil, nil},
		{three, three, three, nil, nil},
		{nil, three, nil, nil, nil},
		{nil, nil, three, []api.Edit{put("b", "2"), put("d", "4"), put("f", "6")}, nil},
		{three, nil, nil, nil, nil},
		{nil, three, three, nil, nil},
		{three, three, nil, []api.Edit{gone("b"), gone("d"), gone("f")}, nil},
		{three, nil, three, nil, nil},
		// Theirs alone added, changed, took away.
		{three, three, of("a=1", "b=2", "d=4", "f=6"), []api.Edit{put("a", "1")}, nil},
		{three, three, of("b=2", "c=", "d=4", "f=6"), []api.Edit{put("c", "")}, nil},
		{three, three, of("b=2", "d=4", "f=6", "g=7"), []api.Edit{put("g", "7")}, nil},
		{three, three, of("b=2", "d=5", "f=6"), []api.Edit{put("d", "5")}, nil},
		{three, three, of("b=2", "d=", "f=6"), []api.Edit{put("d", "")}, nil},
		{three, three, of("d=4", "f=6"), []api.Edit{gone("b")}, nil},
		{three, three, of("b=2", "f=6"), []api.Edit{gone("d")}, nil},
		{three, three, of("b=2", "d=4"), []api.Edit{gone("f")}, nil},
		// Each another key.
		{three, of("b=1", "d=4", "f=6"), of("b=2", "f=6"), []api.Edit{gone("d")}, nil},
		{three, of("a=1", "f=6"), of("b=2", "c=3", "d=4", "f=7"), []api.Edit{put("c", "3"), put("f", "7")}, nil},
		// Both the same: nothing is left to edit.
		{three, of("a=1", "b=1", "f=6"), of("a=1", "b=1", "f=7"), []api.Edit{put("f", "7")}, nil},
		{three, of("a=1", "b=1", "f=6"), of("a=1", "b=1", "f=6"), nil, nil},
		// Clashes: ours stays.
		{three, of("b=1", "d=4", "f=6"), of("b=0", "d=4", "f=6"), nil, []api.Clash{clash("b", "=2", "=1", "=0")}},
		{three, of("b=1", "d=4", "f=6"), of("d=4", "f=6"), nil, []api.Clash{clash("b", "=2", "=1", "")}},
		{three, of("d=4", "f=6"), of("b=1", "d=4", "f=6"), nil, []api.Clash{clash("b", "=2", "", "=1")}},
		{three, of("a=1", "b=2", "d=4", "f=6"), of("a=", "b=2", "d=4", "f=6"), nil, []api.Clash{clash("a", "", "=1", "=")}},
		{three, of("a=1", "b=1", "f=1"), of("a=2", "b=0", "d=1", "e=0"), []api.Edit{put("e", "0")}, []api.Clash{clash("a", "", "=1", "=2"), clash("b", "=2", "=1", "=0"), clash("d", "=4", "", "=1"), clash("f", "=6", "=1", "")}},
		// No key in common.
		{three, of("a=1", "c=1"), of("0=1", "e=1", "g=1"), []api.Edit{put("0", "1"), put("e", "1"), put("g", "1")}, nil},
	} {
		s := wide(t)
		b, o, th := builds(t, s, x.base), builds(t, s, x.ours), builds(t, s, x.theirs)
		tells(t, s, b, o, th, x.want, x.clashes)
		joins(t, s, x.base, x.ours, x.theirs, b, o, th)
	}
}

// samples are maps whose trees have all sorts of sizes and heights.
func samples() [][]api.Entry {
	l := [][]api.Entry{
		nil,
		of("a=1"),
		of("a=1", "d=2", "f=3", "g=4"),
		of("A=1", highest+"=1", "x=2", "y="),
		of("A=1", highest+"=2", "x=3", "z="),
		pick(30, true),
		pick(30, true)[1:],
		pick(31, false),
	}
	for _, n := range []int{3, 40, 41, 300} {
		l = append(l, many(n))
	}
	return append(l, many(300)[100:200], many(20)[10:])
}

// P12.2: what Of tells of the lists, of all threes of these maps.
func TestP12_2Threes(t *testing.T) {
	s := wide(t)
	var roots []uint64
	heights := map[int]bool{}
	for _, l := range samples() {
		roots = append(roots, builds(t, s, l))
		if n, e := tree.Load(s, roots[len(roots)-1]); e == api.OK {
			heights[n.Level] = true
		}
	}
	for _, level := range []int{0, 1, 2, 3, 20} {
		if !heights[level] {
			t.Error("no tree of this height", level, heights)
		}
	}
	for i, b := range samples() {
		for j, o := range samples() {
			for k, th := range samples() {
				want, clashes := meant(b, o, th)
				tells(t, s, roots[i], roots[j], roots[k], needed(o, want), clashes)
			}
		}
	}
}

// ruffled is a map with some edits by chance, of keys that it has and hasn't.
func ruffled(r *rand.Rand, l []api.Entry, size int) []api.Entry {
	m := values(l)
	for range 1 + r.Intn(5) {
		m[fmt.Sprintf("k%05d", r.Intn(size))] = []string{"", "=", "=0", "=1"}[r.Intn(4)]
	}
	return list(m)
}

// P12.2: ours with the edits done is what Of tells, of maps that came of one by chance.
func TestP12_2Done(t *testing.T) {
	r := rand.New(rand.NewSource(3))
	clashed, clean := 0, 0
	for _, size := range []int{1, 5, 30, 300} {
		s := wide(t)
		l := chance(r, size)
		for range 60 {
			o, th := ruffled(r, l, size), ruffled(r, l, size)
			x, y, z := builds(t, s, l), builds(t, s, o), builds(t, s, th)
			joins(t, s, l, o, th, x, y, z)
			edits, clashes, e := merge.Trees(s, x, y, z)
			if e != api.OK {
				t.Fatal(e)
			}
			want, too := merge.Of(l, o, th)
			root, e := tree.Edit(s, y, edits)
			if e != api.OK || root != builds(t, s, want) || !slices.Equal(clashes, too) {
				t.Fatalf("%v, %v, %v: %v, %v, %d, not %v, %v", l, o, th, edits, clashes, e, want, too)
			}
			if len(clashes) > 0 {
				clashed++
			} else {
				clean++
			}
			l = want
		}
	}
	if clashed < 30 || clean < 30 {
		t.Error(clashed, clean)
	}
}

// edited is the root of ours with what Trees tells done, and the keys that clash.
func edited(t *testing.T, s *chunk.Store, base, ours, theirs uint64) (uint64, []string) {
	t.Helper()
	edits, clashes, e := merge.Trees(s, base, ours, theirs)
	if e != api.OK {
		t.Fatal(e)
	}
	root, e := tree.Edit(s, ours, edits)
	if e != api.OK {
		t.Fatal(e)
	}
	var keys []string
	for _, x := range clashes {
		keys = append(keys, x.Key)
	}
	return root, keys
}

// P12.3: turned round the same keys clash, and where none does the same root comes.
func TestP12_3BothWays(t *testing.T) {
	r := rand.New(rand.NewSource(4))
	s := wide(t)
	clashed, clean := 0, 0
	for range 300 {
		l := chance(r, 40)
		x, y, z := builds(t, s, l), builds(t, s, ruffled(r, l, 40)), builds(t, s, ruffled(r, l, 40))
		root, keys := edited(t, s, x, y, z)
		back, again := edited(t, s, x, z, y)
		if !slices.Equal(keys, again) || len(keys) == 0 && root != back {
			t.Fatalf("%v: %d, %v and %d, %v", l, root, keys, back, again)
		}
		if len(keys) > 0 {
			clashed++
		} else {
			clean++
		}
	}
	if clashed < 30 || clean < 30 {
		t.Error(clashed, clean)
	}
}

// P12.4: of one side that changed something that side comes, and nothing clashes.
func TestP12_4OneSide(t *testing.T) {
	s := wide(t)
	for _, b := range samples() {
		for _, o := range samples() {
			comes(t, b, o, b, o, nil)
			comes(t, b, b, o, o, nil)
			x, y := builds(t, s, b), builds(t, s, o)
			if root, keys := edited(t, s, x, y, x); root != y || len(keys) > 0 {
				t.Fatal("theirs is base", root, keys)
			}
			if root, keys := edited(t, s, x, x, y); root != y || len(keys) > 0 {
				t.Fatal("ours is base", root, keys)
			}
		}
	}
}

// A root that is no tree's, in each of the three places; of several the first error of base and ours, then that of base and theirs.
func TestP12_2Root(t *testing.T) {
	s := wide(t)
	good, other := builds(t, s, many(50)), builds(t, s, many(51))
	bad, e := s.Put([]byte("x"))
	if e != api.OK {
		t.Fatal(e)
	}
	for _, x := range []struct {
		id   uint64
		want api.Errno
	}{{bad, api.ErrNode}, {bad + 1, api.ErrNone}, {1<<64 - 1, api.ErrNone}} {
		for _, a := range []uint64{0, good, other} {
			for _, b := range []uint64{0, good, other} {
				fails(t, s, x.id, a, b, x.want)
				fails(t, s, a, x.id, b, x.want)
				fails(t, s, a, b, x.id, x.want)
			}
			fails(t, s, a, x.id, x.id, x.want)
			fails(t, s, x.id, a, x.id, x.want)
			fails(t, s, x.id, x.id, a, x.want)
		}
		fails(t, s, x.id, x.id, x.id, x.want)
	}
	for _, a := range []uint64{0, good, other} {
		fails(t, s, a, bad, bad+1, api.ErrNode)
		fails(t, s, a, bad+1, bad, api.ErrNone)
		fails(t, s, bad, bad+1, a, api.ErrNode)
		fails(t, s, bad+1, bad, a, api.ErrNone)
		fails(t, s, bad, a, bad+1, api.ErrNode)
		fails(t, s, bad+1, a, bad, api.ErrNone)
	}
}

// spans is the pages of each chunk.
func spans(s *chunk.Store) map[uint64]api.Span {
	m := map[uint64]api.Span{}
	l := s.Spans()
	for id := range s.Ids() {
		m[id] = l[len(m)]
	}
	return m
}

// fault lays a fault on a chunk's pages, or takes it away.
func fault(d *dev.Dev, at api.Span, on bool) {
	for i := range 4 * at.Pages {
		d.Fault(4*at.Start+i, on)
	}
}

// P12.2: a leaf that can't be read is an error if base and ours, or base and theirs, haven't both got it; else it is nothing to Trees.
func TestP12_2Fault(t *testing.T) {
	d, s := fresh(t, 16384)
	l := many(200)
	o, th := values(l), values(l)
	o[l[0].Key], o[l[100].Key], o["a"] = "=ours", "=ours", "=ours"
	th[l[100].Key], th[l[150].Key], th["z"] = "=theirs", "", "=theirs"
	b, x, y := builds(t, s, l), builds(t, s, list(o)), builds(t, s, list(th))
	at := spans(s)
	leaves := map[api.Kid]int{}
	for i, root := range []uint64{b, x, y} {
		l, e := tree.Leaves(s, root)
		if e != api.OK {
			t.Fatal(e)
		}
		for _, k := range l {
			leaves[k] |= 1 << i
		}
	}
	seen := map[int]bool{}
	for k, who := range leaves {
		seen[who] = true
		fault(d, at[k.Id], true)
		if who == 7 {
			joins(t, s, l, list(o), list(th), b, x, y)
		} else {
			fails(t, s, b, x, y, api.ErrRead)
			fails(t, s, b, y, x, api.ErrRead)
		}
		fault(d, at[k.Id], false)
	}
	for _, who := range []int{1, 2, 3, 4, 5, 7} {
		if !seen[who] {
			t.Error("no leaf that just these have", who, seen)
		}
	}
	joins(t, s, l, list(o), list(th), b, x, y)
}

// Stores that nobody made, and one whose device died: ErrDev, but of empty maps alone.
func TestP12_2Nobody(t *testing.T) {
	d, dead := fresh(t, 1000)
	root := builds(t, dead, many(20))
	d.Arm(0)
	if _, e := dead.Put([]byte("x")); e != api.ErrDev {
		t.Fatal(e)
	}
	for _, s := range []*chunk.Store{nil, {}, dead} {
		tells(t, s, 0, 0, 0, nil, nil)
		for _, x := range []uint64{1, root, 1 << 63} {
			fails(t, s, x, 0, 0, api.ErrDev)
			fails(t, s, 0, x, 0, api.ErrDev)
			fails(t, s, 0, 0, x, api.ErrDev)
			fails(t, s, x, x, x, api.ErrDev)
			fails(t, s, root, x, 1, api.ErrDev)
		}
	}
	// The device alone is dead: the store hasn't met that.
	d, s := fresh(t, 1000)
	a, b := builds(t, s, many(20)), builds(t, s, many(21))
	d.Arm(0)
	d.Flush()
	fails(t, s, a, b, a, api.ErrDev)
	fails(t, s, a, a, a, api.ErrDev)
	fails(t, s, 0, 0, b, api.ErrDev)
	tells(t, s, 0, 0, 0, nil, nil)
}

// What is committed is put together likewise when the device is opened anew.
func TestP12_2Opened(t *testing.T) {
	d, s := fresh(t, 4000)
	l, m, n := many(100), many(101), many(100)[1:]
	x, y, z := builds(t, s, l), builds(t, s, m), builds(t, s, n)
	if e := s.Commit(nil); e != api.OK {
		t.Fatal(e)
	}
	d.Crash(api.Fate{Torn: -1})
	s, e := chunk.Open(d)
	if e != api.OK {
		t.Fatal(e)
	}
	joins(t, s, l, m, n, x, y, z)
	tells(t, s, x, y, z, []api.Edit{gone(l[0].Key)}, nil)
}

// P2: two answers share nothing, and the store keeps none of them.
func TestP2Trees(t *testing.T) {
	s := wide(t)
	l, o, th := of("a=1", "b=2"), of("a=2", "b=2"), of("a=3", "b=3", "c=4")
	x, y, z := builds(t, s, l), builds(t, s, o), builds(t, s, th)
	want, clashes := []api.Edit{put("b", "3"), put("c", "4")}, []api.Clash{clash("a", "=1", "=2", "=3")}
	edits, c, _ := merge.Trees(s, x, y, z)
	other, too, _ := merge.Trees(s, x, y, z)
	clear(other[:cap(other)])
	clear(too[:cap(too)])
	if !slices.Equal(edits, want) || !slices.Equal(c, clashes) {
		t.Error(edits, c)
	}
	tells(t, s, x, y, z, want, clashes)
}
