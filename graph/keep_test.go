package graph_test

import (
	"math"
	"slices"
	"testing"

	"apograph/api"
	"apograph/graph"
)

// keeps asks for so many that went, and for numbers that stay as they are.
func keeps(t *testing.T, g *graph.Graph, ids []uint64, want int) {
	t.Helper()
	was := slices.Clone(ids)
	if n := g.Keep(ids); n != want {
		t.Fatalf("Keep(%v): %d, not %d", ids, n, want)
	}
	if !slices.Equal(ids, was) {
		t.Fatalf("Keep changed %v to %v", was, ids)
	}
}

// some are those of family with these Ids.
func some(ids ...uint64) []api.Commit {
	return slices.DeleteFunc(family(), func(c api.Commit) bool { return !slices.Contains(ids, c.Id) })
}

func TestP15_4Keep(t *testing.T) {
	for _, row := range []struct{ ids, stay []uint64 }{
		{nil, nil},
		{[]uint64{}, nil},
		{absent(), nil},
		{[]uint64{1}, []uint64{1}},
		{[]uint64{20}, []uint64{20}},
		{[]uint64{4}, []uint64{1, 2, 3, 4}},
		{[]uint64{4, 4}, []uint64{1, 2, 3, 4}},
		{[]uint64{4, 77, 0, 4}, []uint64{1, 2, 3, 4}},
		{[]uint64{2, 4}, []uint64{1, 2, 3, 4}},
		{[]uint64{9, 20}, []uint64{8, 9, 20}},
		{[]uint64{20, 9, 2}, []uint64{1, 2, 8, 9, 20}},
		{[]uint64{10}, []uint64{1, 2, 3, 4, 5, 6, 7, 8, 9, 10}},
		{[]uint64{10, 20}, []uint64{1, 2, 3, 4, 5, 6, 7, 8, 9, 10, 20}},
		{[]uint64{20, 10, 20, top}, []uint64{1, 2, 3, 4, 5, 6, 7, 8, 9, 10, 20}},
		{[]uint64{1, 2, 3, 4, 5, 6, 7, 8, 9, 10, 20}, []uint64{1, 2, 3, 4, 5, 6, 7, 8, 9, 10, 20}},
	} {
		g := made(t, family()...)
		reaches(t, g, row.ids, row.stay...)
		keeps(t, g, row.ids, len(family())-len(row.stay))
		holds(t, g, some(row.stay...)...)
		for _, c := range family() {
			if !slices.Contains(row.stay, c.Id) {
				getsNot(t, g, c.Id)
			}
		}
		keeps(t, g, row.ids, 0) // nothing is left that could go
		holds(t, g, some(row.stay...)...)
	}
	keeps(t, graph.New(), nil, 0)
	keeps(t, graph.New(), []uint64{1, 2}, 0)
}

// P15.4: behind it the Graph is one that has only what stays, in whatever is asked.
func TestP15_4KeepThen(t *testing.T) {
	g := made(t, family()...)
	keeps(t, g, []uint64{5, 9}, 5)
	is(t, g, 2, 5, true)
	is(t, g, 2, 4, false)
	is(t, g, 4, 4, false)
	bases(t, g, 4, 5, 0)
	bases(t, g, 2, 3, 1, 1)
	logs(t, g, 10)
	logs(t, g, 5, 5, 3, 2, 1)
	reaches(t, g, []uint64{10, 7, 5}, 1, 2, 3, 5)

	addsNot(t, g, of(5, 3, 3, 2), api.ErrThere)
	addsNot(t, g, of(6, 4, 4), api.ErrCommit) // its Parent went
	addsNot(t, g, of(10, 6, 9, 7), api.ErrCommit)
	addsNot(t, g, of(20, 2), api.ErrCommit)
	adds(t, g, of(20, 1), api.OK) // an Id that went may come again
	adds(t, g, with(of(4, 3, 9, 2), "x"), api.ErrCommit)
	adds(t, g, with(of(4, 3, 2), "other"), api.OK)
	adds(t, g, of(6, 4, 4), api.OK)
	holds(t, g, append(some(1, 2, 3, 5, 6, 8, 9, 20), with(of(4, 3, 2), "other"))...)
	is(t, g, 3, 4, false)

	keeps(t, g, nil, 9)
	holds(t, g)
	addsNot(t, g, of(2, 2, 1), api.ErrCommit)
	adds(t, g, of(1, 1), api.OK)
	adds(t, g, of(2, 2, 1), api.OK)
	holds(t, g, of(1, 1), of(2, 2, 1))
	keeps(t, g, []uint64{1}, 1)
	holds(t, g, of(1, 1))
}

// P2: what lies behind the length of the numbers doesn't stay for it.
func TestP15_4KeepBehind(t *testing.T) {
	g := made(t, family()...)
	l := []uint64{9, 20, 10}
	keeps(t, g, l[:2], 8)
	holds(t, g, some(8, 9, 20)...)
	keeps(t, g, l[:0], 3)
	holds(t, g)
	if !slices.Equal(l, []uint64{9, 20, 10}) {
		t.Error("changed", l)
	}
}

// P15.4, P1: nil and the zero value, each call, and again when all were called.
func TestP15_4NobodyMade(t *testing.T) {
	for _, g := range []*graph.Graph{nil, {}} {
		for range 2 {
			for _, c := range append(family(), of(0, 1), with(of(1, 1), "\n"), of(1, 2), of(9, 2, 9), of(9, 2, 1, 1)) {
				if e := g.Add(c); e != api.ErrCommit {
					t.Fatal(c, e)
				}
			}
			holds(t, g)
			for _, id := range []uint64{0, 1, 2, 20, top} {
				getsNot(t, g, id)
				reaches(t, g, []uint64{id, 1})
				keeps(t, g, []uint64{id, 1}, 0)
				logs(t, g, id)
				for _, other := range []uint64{0, 1, 2, 20, top} {
					is(t, g, id, other, false)
					bases(t, g, id, other, 0)
				}
			}
			reaches(t, g, nil)
			keeps(t, g, nil, 0)
			for range g.Ids() {
				t.Fatal("told")
			}
		}
	}
}

// spoil changes all of a list, also what lies behind its length.
func spoil(l []uint64) {
	l = l[:cap(l)]
	for i := range l {
		l[i] = 99
	}
}

// P2: what was handed in may be changed without a change elsewhere, and what lies behind its length isn't looked at.
func TestP2HandedIn(t *testing.T) {
	g := made(t, of(1, 1), of(2, 1), of(8, 1))
	l := []uint64{1, 2, 8, 8}
	adds(t, g, of(20, 2, l[:2]...), api.OK)
	adds(t, g, of(21, 2, l[:1]...), api.OK)
	adds(t, g, of(22, 1, l[:0]...), api.OK)
	addsNot(t, g, of(23, 2, l...), api.ErrCommit)
	if !slices.Equal(l, []uint64{1, 2, 8, 8}) {
		t.Fatal("changed", l)
	}
	spoil(l)
	holds(t, g, of(1, 1), of(2, 1), of(8, 1), of(20, 2, 1, 2), of(21, 2, 1), of(22, 1))
	is(t, g, 2, 20, true)
	logs(t, g, 20, 20, 2, 1)
	ids := []uint64{21, 8}
	keeps(t, g, ids, 3)
	spoil(ids)
	holds(t, g, of(1, 1), of(8, 1), of(21, 2, 1))
}

// P2: what was handed out may be changed, all of it and behind its length, without a change elsewhere.
func TestP2HandedOut(t *testing.T) {
	g := made(t, family()...)
	for _, c := range family() {
		one, _ := g.Get(c.Id)
		two, _ := g.Get(c.Id)
		spoil(one.Parents)
		if !like(two, c) {
			t.Fatal("Get shares memory", two)
		}
		spoil(two.Parents)
	}
	holds(t, g, family()...)
	first, second := g.Log(10, 100), g.Log(10, 100)
	for i := range first {
		for j := i + 1; j < len(first); j++ {
			was := slices.Clone(first[j].Parents)
			spoil(first[i].Parents)
			if !slices.Equal(first[j].Parents, was) {
				t.Fatal("two lists of one Log share memory", i, j)
			}
		}
	}
	clear(first[:cap(first)])
	for _, c := range second {
		gets(t, g, c)
	}
	clear(second[:cap(second)])
	for range 2 {
		reaches(t, g, []uint64{9, 4}, 1, 2, 3, 4, 8, 9)
		bases(t, g, 4, 5, 2, 2, 3)
		spoil(g.Reach(9, 4))
		spoil(g.Bases(4, 5))
	}
	holds(t, g, family()...)
}

// P3: no Parents and no numbers, told as nil and as none.
func TestP3None(t *testing.T) {
	for _, none := range [][]uint64{nil, {}, []uint64{1, 2}[:0]} {
		g := graph.New()
		addsNot(t, g, of(5, 2, none...), api.ErrCommit)
		adds(t, g, api.Commit{Id: 5, Parents: none, Gen: 1}, api.OK)
		holds(t, g, api.Commit{Id: 5, Gen: 1})
		reaches(t, g, none)
		keeps(t, g, none, 1)
		holds(t, g)
	}
}

// P3: the same is told however often it is asked, and however the commits came there.
func TestP3Same(t *testing.T) {
	back := family()
	slices.SortFunc(back, func(a, b api.Commit) int {
		return slices.Compare([]uint64{a.Gen, math.MaxUint64 - a.Id}, []uint64{b.Gen, math.MaxUint64 - b.Id})
	})
	one, two := made(t, family()...), made(t, back...)
	adds(t, two, of(30, 1), api.OK)
	keeps(t, two, []uint64{10, 20}, 1)
	for range 50 {
		for _, g := range []*graph.Graph{one, two} {
			holds(t, g, family()...)
			bases(t, g, 4, 5, 2, 2, 3)
			logsMost(t, g, 10, 4, 10, 7, 6, 5)
			reaches(t, g, []uint64{9, 4}, 1, 2, 3, 4, 8, 9)
		}
	}
}
