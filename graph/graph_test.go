package graph_test

import (
	"iter"
	"math"
	"slices"
	"strings"
	"testing"

	"apograph/api"
	"apograph/graph"
	"apograph/object"
)

const top = math.MaxUint64

// of is a commit with these numbers; its Root and Text tell it apart from others.
func of(id, gen uint64, parents ...uint64) api.Commit {
	return api.Commit{Id: id, Parents: parents, Gen: gen, Root: id ^ 7, Text: strings.Repeat("t", int(id%9))}
}

// with is c with another text.
func with(c api.Commit, text string) api.Commit {
	c.Text = text
	return c
}

// like tells whether two commits are the same, told apart by nothing of the program itself.
func like(a, b api.Commit) bool {
	return slices.Equal(a.Parents, b.Parents) && [3]uint64{a.Id, a.Gen, a.Root} == [3]uint64{b.Id, b.Gen, b.Root} && a.Text == b.Text
}

func adds(t *testing.T, g *graph.Graph, c api.Commit, want api.Errno) {
	t.Helper()
	was := slices.Clone(c.Parents)
	if e := g.Add(c); e != want {
		t.Fatalf("Add(%v): %d, not %d", c, e, want)
	}
	if !slices.Equal(c.Parents, was) {
		t.Fatalf("Add changed %v to %v", was, c.Parents)
	}
}

// addsNot adds what can't be, and asks for a Graph that stays as it is.
func addsNot(t *testing.T, g *graph.Graph, c api.Commit, want api.Errno) {
	t.Helper()
	was := list(g)
	adds(t, g, c, want)
	holds(t, g, was...)
}

// made is a Graph of these.
func made(t *testing.T, l ...api.Commit) *graph.Graph {
	t.Helper()
	g := graph.New()
	for _, c := range l {
		adds(t, g, c, api.OK)
	}
	return g
}

func gets(t *testing.T, g *graph.Graph, want api.Commit) {
	t.Helper()
	if c, is := g.Get(want.Id); !is || !like(c, want) {
		t.Fatalf("Get(%d): %v, %v, not %v", want.Id, c, is, want)
	}
}

func getsNot(t *testing.T, g *graph.Graph, ids ...uint64) {
	t.Helper()
	for _, id := range ids {
		if c, is := g.Get(id); is || !like(c, api.Commit{}) {
			t.Fatalf("Get(%d): %v, %v, not none", id, c, is)
		}
	}
}

func told(seq iter.Seq[uint64]) []uint64 {
	var l []uint64
	for id := range seq {
		l = append(l, id)
	}
	return l
}

// list is all that is there.
func list(g *graph.Graph) []api.Commit {
	var l []api.Commit
	for id := range g.Ids() {
		c, _ := g.Get(id)
		l = append(l, c)
	}
	return l
}

// holds asks for just these, in whichever order they are handed in.
func holds(t *testing.T, g *graph.Graph, want ...api.Commit) {
	t.Helper()
	var ids []uint64
	for _, c := range want {
		gets(t, g, c)
		ids = append(ids, c.Id)
	}
	slices.Sort(ids)
	if l := told(g.Ids()); !slices.Equal(l, ids) {
		t.Fatalf("Ids: %v, not %v", l, ids)
	}
}

// family is a graph of several generations: two roots, merges of them crossed, and one that is apart.
func family() []api.Commit {
	return []api.Commit{
		of(1, 1), of(2, 2, 1), of(3, 2, 1), of(4, 3, 2, 3), of(5, 3, 3, 2), of(6, 4, 4), of(7, 5, 6, 5), of(8, 1), of(9, 2, 8), of(10, 6, 9, 7), of(20, 1),
	}
}

func TestExample(t *testing.T) {
	g := made(t, of(1, 1), of(2, 2, 1), of(3, 2, 1))
	if id, is := g.Base(2, 3); id != 1 || !is {
		t.Error(id, is)
	}
}

func TestP15_1New(t *testing.T) {
	g := graph.New()
	if g == nil {
		t.Fatal("nil")
	}
	holds(t, g)
	getsNot(t, g, 0, 1, 2, top)
	other := graph.New()
	adds(t, g, of(1, 1), api.OK)
	holds(t, g, of(1, 1))
	holds(t, other)
	holds(t, graph.New())
	adds(t, other, of(1, 1), api.OK)
	adds(t, other, of(2, 2, 1), api.OK)
	holds(t, g, of(1, 1))
}

// P15.1: what is added is told as it is, all of it, and nothing else.
func TestP15_1Add(t *testing.T) {
	g := graph.New()
	var l []api.Commit
	for _, c := range family() {
		getsNot(t, g, c.Id)
		adds(t, g, c, api.OK)
		l = append(l, c)
		holds(t, g, l...)
	}
	getsNot(t, g, 0, 11, 19, 21, 1<<32, 1<<32+1, 1<<63, 1<<63+1, top)
}

func TestP15_1AddFields(t *testing.T) {
	c := api.Commit{Id: 7, Gen: 1, Root: top, Text: strings.Repeat("~", 60)}
	holds(t, made(t, c), c)
	none := api.Commit{Id: 7, Gen: 1}
	holds(t, made(t, none), none)
	empty := api.Commit{Id: 7, Gen: 1, Parents: []uint64{}}
	holds(t, made(t, empty), none)
	great := []api.Commit{of(1<<32+1, 1), of(1, 1), of(1<<63, 2, 1<<32+1), of(top, 3, 1, 1<<63)}
	holds(t, made(t, great...), great...)
	// Parents needn't rise, and are told in their order.
	both := []api.Commit{of(1, 1), of(2, 1), of(3, 2, 2, 1), of(4, 2, 1, 2)}
	holds(t, made(t, both...), both...)
}

// P15.1: an Id needn't be above those that were added ahead of it, only above its Parents.
func TestP15_1AddOrder(t *testing.T) {
	l := []api.Commit{of(50, 1), of(3, 1), of(90, 2, 50), of(2, 1), of(60, 3, 51), of(51, 2, 50), of(7, 2, 2, 3), of(1, 1)}
	g := graph.New()
	for _, c := range l[:4] {
		adds(t, g, c, api.OK)
	}
	addsNot(t, g, l[4], api.ErrCommit) // its Parent comes next
	adds(t, g, l[5], api.OK)
	adds(t, g, l[4], api.OK)
	adds(t, g, l[6], api.OK)
	adds(t, g, l[7], api.OK)
	holds(t, g, l...)
}

// P15.1: each of object.Right's errors.
func TestP15_1AddRight(t *testing.T) {
	for _, g := range []*graph.Graph{graph.New(), made(t, family()...)} {
		for _, c := range []api.Commit{
			{}, {Gen: 1}, {Id: 30}, {Id: 30, Gen: 2}, {Id: 30, Gen: top},
			of(0, 2, 1), of(30, 2, 0), of(30, 2, 30), of(30, 2, 31), of(30, 2, top), of(30, 2, 1, 1), of(30, 2, 1, 0), of(30, 2, 0, 1), of(30, 2, 1, 30),
			of(30, 3, 1, 2, 3), of(30, 2, 1, 8, 20), of(30, 2, 1, 1, 1), of(30, 0, 1), of(30, 1, 1), of(30, 1, 1, 8),
		} {
			addsNot(t, g, c, api.ErrCommit)
			addsNot(t, g, with(c, "\n"), api.ErrCommit)
		}
		for _, text := range []string{"\n", "\x1f", "\x7f", "é", "\x80", strings.Repeat("x", 61), strings.Repeat("x", 1<<20)} {
			addsNot(t, g, with(of(30, 1), text), api.ErrText)
		}
		adds(t, g, with(of(30, 1), strings.Repeat("x", 60)), api.OK)
	}
}

// P15.1: whatever c is, if there is one with its Id it doesn't come, and the one that is there stays.
func TestP15_1AddThere(t *testing.T) {
	g := made(t, family()...)
	for _, c := range family() {
		addsNot(t, g, c, api.ErrThere)
		addsNot(t, g, with(c, "other"), api.ErrThere)
		c.Root++
		addsNot(t, g, c, api.ErrThere)
		addsNot(t, g, of(c.Id, 1), api.ErrThere)
	}
	addsNot(t, g, of(10, 7, 6), api.ErrThere)
	holds(t, g, family()...)
}

func TestP15_1AddParents(t *testing.T) {
	g := made(t, family()...)
	for _, gone := range []uint64{11, 15, 19, 21, 29} {
		for _, gen := range []uint64{2, 3, 7, top} {
			addsNot(t, g, of(30, gen, gone), api.ErrCommit)
			addsNot(t, g, of(30, gen, gone, 1), api.ErrCommit)
			addsNot(t, g, of(30, gen, 1, gone), api.ErrCommit)
			addsNot(t, g, of(30, gen, gone, 10), api.ErrCommit)
			addsNot(t, g, of(30, gen, 10, gone), api.ErrCommit)
			addsNot(t, g, of(30, gen, gone, gone+30), api.ErrCommit)
			addsNot(t, g, of(100, gen, gone, gone+30), api.ErrCommit)
		}
	}
	// Numbers that are alike but for high bits are others.
	addsNot(t, g, of(1<<40, 2, 1<<32+1), api.ErrCommit)
	addsNot(t, g, of(top, 2, 1<<63+1), api.ErrCommit)
	addsNot(t, g, of(top, 2, 1, 1<<63+8), api.ErrCommit)
	adds(t, g, of(top, 2, 1, 8), api.OK)
}

// P15.1: with no, one and two Parents, of like and unlike Gens, both ways round, all Gens but one.
func TestP15_1AddGen(t *testing.T) {
	for _, row := range []struct {
		right   uint64
		parents []uint64
	}{
		{1, nil}, {2, []uint64{1}}, {2, []uint64{20}}, {3, []uint64{2}}, {3, []uint64{9}}, {4, []uint64{4}}, {5, []uint64{6}}, {7, []uint64{10}},
		{2, []uint64{1, 8}}, {2, []uint64{8, 1}}, {3, []uint64{1, 2}}, {3, []uint64{2, 1}}, {3, []uint64{2, 3}}, {3, []uint64{9, 3}}, {4, []uint64{4, 5}},
		{7, []uint64{1, 10}}, {7, []uint64{10, 1}}, {7, []uint64{20, 10}}, {6, []uint64{7, 6}}, {6, []uint64{6, 7}}, {5, []uint64{6, 5}}, {5, []uint64{5, 6}},
	} {
		g := made(t, family()...)
		for _, gen := range []uint64{0, 1, 2, 3, 4, 5, 6, 7, 8, 9, 1<<32 + row.right, 1<<63 + row.right, row.right - 2, top - 1, top} {
			if gen != row.right {
				addsNot(t, g, of(30, gen, row.parents...), api.ErrCommit)
			}
		}
		adds(t, g, of(30, row.right, row.parents...), api.OK)
		gets(t, g, of(30, row.right, row.parents...))
	}
}

// P15.1, P4: what is wrong by object.Right comes first, then an Id that is there, then Parents and Gen.
func TestP15_1AddFirst(t *testing.T) {
	g := made(t, family()...)
	long := strings.Repeat("x", 61)
	addsNot(t, g, with(of(4, 3, 2, 3), "\n"), api.ErrText) // there
	addsNot(t, g, with(of(30, 2, 29), long), api.ErrText)  // a Parent that isn't
	addsNot(t, g, with(of(30, 2, 1, 29), long), api.ErrText)
	addsNot(t, g, with(of(30, 9, 1), "\n"), api.ErrText)  // a wrong Gen
	addsNot(t, g, with(of(20, 9, 19), "\n"), api.ErrText) // all of it
	addsNot(t, g, of(4, 2), api.ErrCommit)                // wrong, and there
	addsNot(t, g, of(4, 2, 4), api.ErrCommit)
	addsNot(t, g, of(4, 2, 3, 3), api.ErrCommit)
	addsNot(t, g, of(4, 1, 3), api.ErrCommit)
	addsNot(t, g, of(4, 3, 1, 2, 3), api.ErrCommit)
	addsNot(t, g, with(of(4, 2), "\n"), api.ErrCommit)
	addsNot(t, g, of(20, 2, 19), api.ErrThere) // there, and a Parent that isn't
	addsNot(t, g, of(20, 2, 1, 19), api.ErrThere)
	addsNot(t, g, of(4, 4, 2, 3), api.ErrThere) // there, and a wrong Gen
	addsNot(t, g, of(20, 9, 19, 18), api.ErrThere)
	addsNot(t, g, of(30, 9, 29, 28), api.ErrCommit)
	for _, c := range []api.Commit{of(4, 3, 2, 3), of(4, 1), of(30, 1), of(30, 3, 29), of(0, 1)} {
		for _, text := range []string{"", "\n"} {
			if e := object.Right(with(c, text)); e != api.OK {
				addsNot(t, g, with(c, text), e)
			}
		}
	}
}

// P15.1: what was refused isn't there, and may come later.
func TestP15_1AddAgain(t *testing.T) {
	g := graph.New()
	addsNot(t, g, of(2, 2, 1), api.ErrCommit)
	addsNot(t, g, with(of(1, 1), "\n"), api.ErrText)
	adds(t, g, of(1, 1), api.OK)
	addsNot(t, g, of(2, 3, 1), api.ErrCommit)
	adds(t, g, of(2, 2, 1), api.OK)
	addsNot(t, g, of(2, 2, 1), api.ErrThere)
	holds(t, g, of(1, 1), of(2, 2, 1))
}

func TestP15_1Ids(t *testing.T) {
	for _, want := range [][]uint64{nil, {1}, {top}, {1, 2}, {1, 5, 9, 1 << 32, 1<<32 + 1, 1 << 63, top}} {
		g := graph.New()
		for _, id := range want {
			adds(t, g, of(id, 1), api.OK)
		}
		back := graph.New()
		for _, id := range slices.Backward(want) {
			adds(t, back, of(id, 1), api.OK)
		}
		if l := told(g.Ids()); !slices.Equal(l, want) {
			t.Errorf("%v, not %v", l, want)
		}
		if l := told(back.Ids()); !slices.Equal(l, want) {
			t.Errorf("%v, not %v", l, want)
		}
	}
}

// P5: left at each place, and gone through again, also by two at once.
func TestP15_1IdsLeft(t *testing.T) {
	g := graph.New()
	var want []uint64
	for id := uint64(300); id > 0; id -= 3 {
		adds(t, g, of(id, 1), api.OK)
		want = append(want, id)
	}
	slices.Sort(want)
	seq := g.Ids()
	for most := range len(want) + 1 {
		var l []uint64
		for id := range seq {
			if len(l) == most {
				break
			}
			l = append(l, id)
		}
		if !slices.Equal(l, want[:most]) {
			t.Fatalf("%v, not %v", l, want[:most])
		}
	}
	if l := told(seq); !slices.Equal(l, want) {
		t.Fatal(l)
	}
	at := 0
	for id := range seq {
		if l := told(seq); id != want[at] || !slices.Equal(l, want) {
			t.Fatal(id, l)
		}
		at++
	}
}

// P2: Ids tells what was there when it was called, and commits may come and go meanwhile.
func TestP15_1IdsChanged(t *testing.T) {
	g := made(t, family()...)
	want := told(g.Ids())
	seq := g.Ids()
	adds(t, g, of(11, 7, 10), api.OK)
	if l := told(seq); !slices.Equal(l, want) {
		t.Fatal(l)
	}
	at := 0
	for id := range seq {
		if id != want[at] {
			t.Fatal(id)
		}
		at++
		adds(t, g, of(100+id, 1), api.OK)
		g.Keep([]uint64{100 + id})
	}
	if at != len(want) {
		t.Fatal(at)
	}
	holds(t, g, of(120, 1))
	if l := told(seq); !slices.Equal(l, want) {
		t.Fatal(l)
	}
}
