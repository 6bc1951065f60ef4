package graph_test

import (
	"slices"
	"testing"

	"apograph/api"
	"apograph/graph"
)

func is(t *testing.T, g *graph.Graph, old, late uint64, want bool) {
	t.Helper()
	if got := g.Is(old, late); got != want {
		t.Fatalf("Is(%d, %d): %v", old, late, got)
	}
}

func reaches(t *testing.T, g *graph.Graph, ids []uint64, want ...uint64) {
	t.Helper()
	was := slices.Clone(ids)
	if l := g.Reach(ids...); !slices.Equal(l, want) {
		t.Fatalf("Reach(%v): %v, not %v", ids, l, want)
	}
	if !slices.Equal(ids, was) {
		t.Fatalf("Reach changed %v to %v", was, ids)
	}
}

// bases asks for these Bases, of which base is the Base (0: none), both ways round.
func bases(t *testing.T, g *graph.Graph, a, b, base uint64, want ...uint64) {
	t.Helper()
	for range 2 {
		if l := g.Bases(a, b); !slices.Equal(l, want) {
			t.Fatalf("Bases(%d, %d): %v, not %v", a, b, l, want)
		}
		if id, is := g.Base(a, b); id != base || is != (base != 0) {
			t.Fatalf("Base(%d, %d): %d, %v, not %d", a, b, id, is, base)
		}
		a, b = b, a
	}
}

// absent are numbers that family doesn't have.
func absent() []uint64 {
	return []uint64{0, 11, 19, 21, 1<<32 + 1, 1<<63 + 1, top}
}

// lines is what each commit of family has for ancestors, written out.
func lines() map[uint64][]uint64 {
	return map[uint64][]uint64{
		1: {1}, 2: {1, 2}, 3: {1, 3}, 4: {1, 2, 3, 4}, 5: {1, 2, 3, 5}, 6: {1, 2, 3, 4, 6}, 7: {1, 2, 3, 4, 5, 6, 7},
		8: {8}, 9: {8, 9}, 10: {1, 2, 3, 4, 5, 6, 7, 8, 9, 10}, 20: {20},
	}
}

func TestP15_2Is(t *testing.T) {
	g := made(t, family()...)
	for late, l := range lines() {
		for _, c := range family() {
			is(t, g, c.Id, late, slices.Contains(l, c.Id))
		}
	}
	is(t, g, 4, 4, true)  // itself
	is(t, g, 2, 4, true)  // by the first Parent
	is(t, g, 3, 4, true)  // by the second one
	is(t, g, 4, 2, false) // the other way round
	is(t, g, 8, 10, true) // some steps off, by the first one
	is(t, g, 5, 10, true) // by the second one, twice
	is(t, g, 1, 10, true) // by many ways
	is(t, g, 10, 1, false)
	is(t, g, 2, 3, false) // beside it
	is(t, g, 4, 5, false) // of one Gen, behind the same
	is(t, g, 9, 7, false) // of a lesser Gen, but apart
	is(t, g, 20, 10, false)
	is(t, g, 20, 20, true)
}

// P15.2: what isn't there is no ancestor and has none, not even itself.
func TestP15_2IsAbsent(t *testing.T) {
	g := made(t, family()...)
	for _, none := range absent() {
		for _, other := range absent() {
			is(t, g, none, other, false)
		}
		for _, c := range family() {
			is(t, g, none, c.Id, false)
			is(t, g, c.Id, none, false)
		}
		is(t, graph.New(), none, none, false)
	}
}

func TestP15_2Reach(t *testing.T) {
	g := made(t, family()...)
	reaches(t, g, nil)
	reaches(t, g, []uint64{})
	for id, l := range lines() {
		reaches(t, g, []uint64{id}, l...)
		reaches(t, g, []uint64{id, id}, l...)
		reaches(t, g, []uint64{id, id, 1000, id}, l...)
	}
	reaches(t, g, []uint64{2, 3}, 1, 2, 3)
	reaches(t, g, []uint64{3, 2}, 1, 2, 3)
	reaches(t, g, []uint64{20, 9, 4}, 1, 2, 3, 4, 8, 9, 20)
	reaches(t, g, []uint64{4, 1, 2}, 1, 2, 3, 4) // one and its ancestors
	reaches(t, g, []uint64{1, 2, 4}, 1, 2, 3, 4)
	reaches(t, g, []uint64{10, 20}, 1, 2, 3, 4, 5, 6, 7, 8, 9, 10, 20)
	reaches(t, g, []uint64{9, 20, 9}, 8, 9, 20)
	reaches(t, graph.New(), []uint64{1, 2})
}

func TestP15_2ReachAbsent(t *testing.T) {
	g := made(t, family()...)
	reaches(t, g, absent())
	for _, none := range absent() {
		reaches(t, g, []uint64{none})
		reaches(t, g, []uint64{none, none})
		reaches(t, g, []uint64{none, 2}, 1, 2)
		reaches(t, g, []uint64{2, none}, 1, 2)
		reaches(t, g, []uint64{20, none, 2}, 1, 2, 20)
	}
}

// P15.2: numbers of all sizes rise as numbers do.
func TestP15_2ReachRising(t *testing.T) {
	g := made(t, of(9, 1), of(10, 2, 9), of(1<<32, 2, 9), of(1<<32+1, 3, 10, 1<<32), of(1<<63, 4, 1<<32+1, 9), of(top, 5, 1<<63), of(100, 1))
	reaches(t, g, []uint64{top, 100}, 9, 10, 100, 1<<32, 1<<32+1, 1<<63, top)
}

// P2: what lies behind the length of the numbers isn't asked for.
func TestP15_2ReachBehind(t *testing.T) {
	g := made(t, family()...)
	l := []uint64{2, 9, 20, 10}
	reaches(t, g, l[:0])
	reaches(t, g, l[:1], 1, 2)
	reaches(t, g, l[:2], 1, 2, 8, 9)
	if !slices.Equal(l, []uint64{2, 9, 20, 10}) {
		t.Error("changed", l)
	}
}

func TestP15_2Bases(t *testing.T) {
	g := made(t, family()...)
	for _, c := range family() {
		bases(t, g, c.Id, c.Id, c.Id, c.Id)
	}
	for late, l := range lines() {
		for _, old := range l {
			bases(t, g, late, old, old, old) // one and its ancestor
		}
	}
	bases(t, g, 2, 3, 1, 1) // two behind one
	bases(t, g, 4, 5, 2, 2, 3)
	bases(t, g, 6, 5, 2, 2, 3)
	bases(t, g, 7, 9, 0) // nothing in common
	bases(t, g, 1, 8, 0)
	for _, c := range family()[:10] {
		bases(t, g, 20, c.Id, 0)
	}
}

func TestP15_2BasesAbsent(t *testing.T) {
	g := made(t, family()...)
	for _, none := range absent() {
		for _, other := range absent() {
			bases(t, g, none, other, 0)
		}
		for _, c := range family() {
			bases(t, g, none, c.Id, 0)
		}
		bases(t, graph.New(), none, none, 0)
	}
}

// P15.2: merges that are crossed, with two bases of one Gen, of which the least Id is the Base, and of two, of which the greatest Gen is.
func TestP15_2BasesCrossed(t *testing.T) {
	one := []api.Commit{of(1, 1), of(12, 2, 1), of(15, 2, 1)}
	bases(t, made(t, append(one, of(20, 3, 12, 15), of(21, 3, 15, 12))...), 20, 21, 12, 12, 15)
	bases(t, made(t, append(one, of(20, 3, 12, 15), of(21, 3, 12, 15))...), 20, 21, 12, 12, 15)
	two := []api.Commit{of(1, 1), of(15, 2, 1)}
	late := append(two, of(18, 3, 15), of(10, 2, 1), of(20, 4, 18, 10), of(21, 4, 10, 18))
	bases(t, made(t, late...), 20, 21, 18, 10, 18) // the greater Gen has the greater Id
	early := append(two, of(18, 2, 1), of(16, 3, 15), of(20, 4, 16, 18), of(21, 4, 18, 16))
	bases(t, made(t, early...), 20, 21, 16, 16, 18) // the greater Gen has the lesser Id
	apart := []api.Commit{of(1, 1), of(2, 1), of(3, 2, 1, 2), of(4, 2, 2, 1), of(5, 3, 3), of(6, 4, 5)}
	bases(t, made(t, apart...), 6, 4, 1, 1, 2) // two bases that have nothing in common
}

// P15.2: more than two bases, of several Gens, some of them of the greatest one.
func TestP15_2BasesMany(t *testing.T) {
	g := graph.New()
	var want []uint64
	a, b := uint64(1000), uint64(2000)
	adds(t, g, of(a, 1), api.OK)
	adds(t, g, of(b, 1), api.OK)
	gen := uint64(1)
	for i := range uint64(30) {
		id, depth := i+1, i%5 // a line of so many commits, of which the last one is a base
		for step := range depth + 1 {
			c := of(id+100*step, step+1)
			if step > 0 {
				c.Parents = []uint64{id + 100*(step-1)}
			}
			adds(t, g, c, api.OK)
		}
		last := id + 100*depth
		want = append(want, last)
		gen = max(gen, depth+1) + 1
		adds(t, g, of(a+1, gen, a, last), api.OK)
		adds(t, g, of(b+1, gen, last, b), api.OK)
		a, b = a+1, b+1
	}
	slices.Sort(want)
	bases(t, g, a, b, 405, want...)
}

// P15.2: a common ancestor that is one of another by a way that isn't common is none of the bases.
func TestP15_2BasesBehind(t *testing.T) {
	// 1 is a Parent of both sides, yet an ancestor of 2 by 3.
	g := made(t, of(1, 1), of(3, 2, 1), of(4, 3, 3), of(5, 4, 1, 4), of(6, 4, 4, 1))
	bases(t, g, 5, 6, 4, 4)
	// One side is behind by one way, and has an old one beside it by another.
	g = made(t, of(1, 1), of(2, 2, 1), of(3, 3, 2), of(4, 4, 3), of(5, 5, 4, 1), of(6, 3, 2, 1))
	bases(t, g, 5, 6, 2, 2)
	bases(t, g, 5, 4, 4, 4)
	bases(t, g, 6, 3, 2, 2)
}

// P15.5, P15.6: of all pairs of a graph, and of each of its common ancestors.
func TestP15_5BestOfAll(t *testing.T) {
	g := made(t, append(family(), of(30, 4, 5, 4), of(31, 4, 4, 5), of(32, 5, 31, 9), of(33, 5, 30, 9), of(34, 7, 10, 33))...)
	some := 0
	for a := range g.Ids() {
		for b := range g.Ids() {
			base, is := g.Base(a, b)
			if id, too := g.Base(b, a); id != base || too != is {
				t.Fatal(a, b, base, id)
			}
			best, _ := g.Get(base)
			for id := range g.Ids() {
				if !g.Is(id, a) || !g.Is(id, b) {
					continue
				}
				some++
				if c, _ := g.Get(id); !is || c.Gen > best.Gen || c.Gen == best.Gen && id < base {
					t.Fatal(a, b, base, id)
				}
			}
			if is && (!g.Is(base, a) || !g.Is(base, b)) {
				t.Fatal(a, b, base)
			}
		}
	}
	if some < 300 {
		t.Error("too few", some)
	}
}

// P1: a line as long as it may be told ends, and so does what has more ways than can be gone one by one.
func TestP15_2Deep(t *testing.T) {
	const size = 200_000
	g := made(t, of(1, 1))
	for id := uint64(2); id <= size; id++ {
		if e := g.Add(of(id, id, id-1)); e != api.OK {
			t.Fatal(id, e)
		}
	}
	is(t, g, 1, size, true)
	is(t, g, size, 1, false)
	bases(t, g, size, size/2, size/2, size/2)
	if l := g.Reach(size, 1, size); len(l) != size || l[0] != 1 || l[size-1] != size || !slices.IsSorted(l) {
		t.Fatal(len(l))
	}
	if l := g.Log(size, size*2); len(l) != size || l[0].Id != size || l[size-1].Id != 1 {
		t.Fatal(len(l))
	}
	if n := g.Keep([]uint64{size / 2}); n != size/2 {
		t.Fatal(n)
	}
}

func TestP15_2Ladder(t *testing.T) {
	g := made(t, of(1, 1), of(2, 1))
	last := uint64(2)
	for step := uint64(2); step < 2000; step++ {
		adds(t, g, of(last+1, step, last-1, last), api.OK)
		adds(t, g, of(last+2, step, last, last-1), api.OK)
		last += 2
	}
	is(t, g, 1, last, true)
	is(t, g, last-1, last, false)
	bases(t, g, last-1, last, last-3, last-3, last-2)
	if l := g.Reach(last, last-1); len(l) != int(last) {
		t.Fatal(len(l))
	}
	l := g.Log(last, int(last))
	if len(l) != int(last)-1 {
		t.Fatal(len(l))
	}
	for i, c := range l[1:] {
		if c.Id != last-2-uint64(i) {
			t.Fatal(i, c)
		}
	}
	if n := g.Keep([]uint64{last}); n != 1 {
		t.Fatal(n)
	}
}

// P1: many commits behind one, and many numbers.
func TestP15_2Wide(t *testing.T) {
	g := made(t, of(1, 1))
	var all []uint64
	for id := uint64(2); id < 50_000; id++ {
		adds(t, g, of(id, 2, 1), api.OK)
		all = append(all, id, id)
	}
	bases(t, g, 2, 49_999, 1, 1)
	if l := g.Reach(all...); len(l) != 49_999 || !slices.IsSorted(l) {
		t.Fatal(len(l))
	}
	if n := g.Keep(all[:2]); n != 49_997 {
		t.Fatal(n)
	}
}
