package graph_test

import (
	"math"
	"testing"

	"apograph/api"
	"apograph/graph"
)

// logs asks for all these, and for the first ones of them with each number below theirs, and with greater ones.
func logs(t *testing.T, g *graph.Graph, id uint64, want ...uint64) {
	t.Helper()
	for most := range len(want) + 3 {
		logsMost(t, g, id, most, want[:min(most, len(want))]...)
	}
	for _, most := range []int{1000, 1 << 31, 1 << 32, math.MaxInt} {
		logsMost(t, g, id, most, want...)
	}
	for _, most := range []int{-1, -2, -len(want), -1 << 31, -1 << 32, math.MinInt} {
		logsMost(t, g, id, most)
	}
}

func logsMost(t *testing.T, g *graph.Graph, id uint64, most int, want ...uint64) {
	t.Helper()
	l := g.Log(id, most)
	if len(l) != len(want) {
		t.Fatalf("Log(%d, %d): %v, not %v", id, most, l, want)
	}
	for i, c := range l {
		if had, is := g.Get(want[i]); !is || !like(c, had) {
			t.Fatalf("Log(%d, %d): %v, not %v", id, most, l, want)
		}
	}
}

func TestP15_3Log(t *testing.T) {
	g := made(t, family()...)
	logs(t, g, 1, 1)
	logs(t, g, 2, 2, 1)
	logs(t, g, 3, 3, 1)
	logs(t, g, 4, 4, 3, 2, 1)
	logs(t, g, 5, 5, 3, 2, 1)
	logs(t, g, 6, 6, 4, 3, 2, 1)
	logs(t, g, 7, 7, 6, 5, 4, 3, 2, 1)
	logs(t, g, 9, 9, 8)
	logs(t, g, 10, 10, 7, 6, 5, 4, 9, 3, 2, 8, 1) // by Gen, whatever the Ids are
	logs(t, g, 20, 20)
	gets(t, g, of(10, 6, 9, 7))
}

func TestP15_3LogAbsent(t *testing.T) {
	g := made(t, family()...)
	for _, id := range absent() {
		logs(t, g, id)
		logs(t, graph.New(), id)
	}
}

// P15.3: a commit of a great Gen and a small Id comes ahead of one of a small Gen and a great Id.
func TestP15_3LogGen(t *testing.T) {
	g := made(t, of(1, 1), of(2, 2, 1), of(3, 3, 2), of(100, 1), of(90, 1), of(95, 2, 90), of(101, 4, 100, 3), of(102, 5, 95, 101))
	logs(t, g, 102, 102, 101, 3, 95, 2, 100, 90, 1)
	logs(t, g, 101, 101, 3, 2, 100, 1)
	// The same with the Parents the other way round.
	g = made(t, of(1, 1), of(2, 2, 1), of(3, 3, 2), of(100, 1), of(90, 1), of(95, 2, 90), of(101, 4, 3, 100), of(102, 5, 101, 95))
	logs(t, g, 102, 102, 101, 3, 95, 2, 100, 90, 1)
}

// P15.3: many of one Gen, however they were added: by Id, the greatest first, each once.
func TestP15_3LogOneGen(t *testing.T) {
	ids := []uint64{5, 1 << 33, 1, 12, top - 20, 3, 1<<32 + 2, 8}
	g := graph.New()
	for _, id := range ids {
		adds(t, g, of(id, 1), api.OK)
	}
	at, gen, line := top-uint64(10), uint64(2), []uint64(nil)
	adds(t, g, of(at, gen, ids[0], ids[1]), api.OK)
	line = append(line, at)
	for _, id := range ids[2:] {
		at, gen = at+1, gen+1
		adds(t, g, of(at, gen, id, at-1), api.OK)
		line = append([]uint64{at}, line...)
	}
	logs(t, g, at, append(line, top-20, 1<<33, 1<<32+2, 12, 8, 5, 3, 1)...)
	logs(t, g, top-10, top-10, 1<<33, 5)
}

// P15.3: Gens of all sizes that can be had come as numbers do, two digits behind one.
func TestP15_3LogLine(t *testing.T) {
	g := made(t, of(1, 1))
	want := []uint64{1}
	for id := uint64(2); id < 300; id++ {
		adds(t, g, of(id, id, id-1), api.OK)
		want = append([]uint64{id}, want...)
	}
	logs(t, g, 299, want...)
	logs(t, g, 150, want[149:]...)
}
