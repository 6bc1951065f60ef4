package state_test

import (
	"fmt"
	"math"
	"reflect"
	"slices"
	"strings"
	"testing"

	"apograph/api"
	"apograph/state"
)

const top = math.MaxUint64

func branch(name string, id uint64) api.Ref {
	return api.Ref{Name: name, Id: id}
}

func tag(name string, id uint64) api.Ref {
	return api.Ref{Name: name, Tag: true, Id: id}
}

func made(id, chunk uint64) api.Made {
	return api.Made{Id: id, Chunk: chunk}
}

func has(val string) api.Side {
	return api.Side{Has: true, Val: val}
}

// clashes are so many that are right, of all kinds.
func clashes(many int) []api.Clash {
	kinds := []api.Clash{
		{Base: has("1"), Ours: has("2"), Theirs: has("3")},
		{Ours: has("2"), Theirs: has("")},
		{Base: has("1"), Theirs: has("3")},
		{Base: has(""), Ours: has(strings.Repeat("v", 200))},
	}
	var l []api.Clash
	for i := range many {
		c := kinds[i%len(kinds)]
		c.Key = fmt.Sprintf("k%04d", i)
		l = append(l, c)
	}
	return l
}

// full is a right state that has something of everything.
func full() api.State {
	return api.State{
		Head: "main", Work: 7, Next: 9, Pending: 3,
		Refs:    []api.Ref{branch("dev", 1), branch("main", 6), branch("new", 0), tag("v1", 3), tag("v2", 6)},
		Made:    []api.Made{made(1, 2), made(3, 5), made(4, 5), made(6, 1)},
		Clashes: clashes(3),
	}
}

// one is a right state with one thing of each list.
func one() api.State {
	return api.State{Head: "a", Next: 2, Pending: 1, Refs: []api.Ref{branch("a", 1)}, Made: []api.Made{made(1, 1)}, Clashes: clashes(1)}
}

// manyRefs are so many, their names rising, the first of them a branch.
func manyRefs(many int) []api.Ref {
	var l []api.Ref
	for i := range many {
		l = append(l, api.Ref{Name: fmt.Sprintf("r%03d", i), Tag: i%3 == 1, Id: 1})
	}
	return l
}

// manyMade are so many, of the Ids from 1 on.
func manyMade(many int) []api.Made {
	var l []api.Made
	for i := range many {
		l = append(l, made(uint64(i)+1, uint64(i)*1000+1))
	}
	return l
}

// clone is a state with lists of its own.
func clone(s api.State) api.State {
	s.Refs, s.Made, s.Clashes = slices.Clone(s.Refs), slices.Clone(s.Made), slices.Clone(s.Clashes)
	return s
}

// like tells whether two states are the same, told apart by nothing of the package itself.
func like(a, b api.State) bool {
	for _, s := range []*api.State{&a, &b} {
		if len(s.Refs) == 0 {
			s.Refs = nil
		}
		if len(s.Made) == 0 {
			s.Made = nil
		}
		if len(s.Clashes) == 0 {
			s.Clashes = nil
		}
	}
	return reflect.DeepEqual(a, b)
}

func TestP17_1New(t *testing.T) {
	want := api.State{Head: "main", Next: 1, Refs: []api.Ref{{Name: "main"}}}
	s := state.New()
	if !like(s, want) || !state.Same(s, want) {
		t.Error(s)
	}
	if len(s.Made) != 0 || len(s.Clashes) != 0 {
		t.Error(s)
	}
	right(t, s, true)
}

// P17.1, P2: each is one of its own.
func TestP17_1NewTwice(t *testing.T) {
	a, b := state.New(), state.New()
	a.Refs[0] = tag("v1", 7)
	a.Refs = append(a.Refs, branch("dev", 2))
	a.Made = append(a.Made, made(1, 1))
	a.Head, a.Next, a.Work, a.Pending = "dev", 2, 3, 1
	c := state.New()
	for _, s := range []api.State{b, c} {
		if !like(s, api.State{Head: "main", Next: 1, Refs: []api.Ref{{Name: "main"}}}) {
			t.Error(s)
		}
	}
}

func finds(t *testing.T, s api.State, id, want uint64) {
	t.Helper()
	if chunk, is := state.Find(s, id); !is || chunk != want {
		t.Errorf("Find of %d in %v: %d, %v, not %d", id, s.Made, chunk, is, want)
	}
}

func findsNot(t *testing.T, s api.State, ids ...uint64) {
	t.Helper()
	for _, id := range ids {
		if chunk, is := state.Find(s, id); is || chunk != 0 {
			t.Errorf("Find of %d in %v: %d, %v", id, s.Made, chunk, is)
		}
	}
}

func TestP17_1Find(t *testing.T) {
	s := full()
	for id, chunk := range map[uint64]uint64{1: 2, 3: 5, 4: 5, 6: 1} {
		finds(t, s, id, chunk)
	}
	findsNot(t, s, 0, 2, 5, 7, 8, 9, 257, 1<<32+1, 1<<63+1, top)
	for _, none := range []api.State{{}, state.New(), {Made: []api.Made{}}, {Made: s.Made[:0]}} {
		findsNot(t, none, 0, 1, 2, 3, 6, top)
	}
	s.Made = []api.Made{made(1, top), made(top, 1)}
	finds(t, s, 1, top)
	finds(t, s, top, 1)
	findsNot(t, s, 0, 2, top-1)
	s.Made = manyMade(200)
	for i, m := range s.Made {
		finds(t, s, uint64(i)+1, m.Chunk)
	}
	findsNot(t, s, 0, 201)
	s.Made = s.Made[:100]
	findsNot(t, s, 101, 200)
}

// P17.1, P1: of states that aren't right, too; what it finds is an Id among the Made, whatever else is wrong.
func TestP17_1FindWrong(t *testing.T) {
	s := api.State{Made: []api.Made{made(9, 4), made(2, 0), made(0, 6), made(9, 4), made(5, 3)}}
	finds(t, s, 9, 4)
	finds(t, s, 2, 0)
	finds(t, s, 0, 6)
	finds(t, s, 5, 3)
	findsNot(t, s, 1, 4, 6, top)
	s.Made = manyMade(5000)
	finds(t, s, 5000, 4999_001)
}

// changes are such that each makes of full another state in one thing alone.
func changes() []func(*api.State) {
	l := []func(*api.State){
		func(s *api.State) { s.Head = "dev" },
		func(s *api.State) { s.Head = "" },
		func(s *api.State) { s.Head = "Main" },
		func(s *api.State) { s.Head = "main\x00" },
		func(s *api.State) { s.Work = 0 },
		func(s *api.State) { s.Work = 8 },
		func(s *api.State) { s.Work += 1 << 32 },
		func(s *api.State) { s.Next = 10 },
		func(s *api.State) { s.Next = top },
		func(s *api.State) { s.Pending = 0 },
		func(s *api.State) { s.Pending = 4 },
		func(s *api.State) { s.Pending += 1 << 63 },
		func(s *api.State) { s.Work, s.Pending = s.Pending, s.Work },
		func(s *api.State) { s.Refs = nil },
		func(s *api.State) { s.Refs = s.Refs[1:] },
		func(s *api.State) { s.Refs = s.Refs[:4] },
		func(s *api.State) { s.Refs = append(s.Refs, branch("z", 1)) },
		func(s *api.State) { s.Refs = append(s.Refs, s.Refs[4]) },
		func(s *api.State) { s.Refs = append(s.Refs, api.Ref{}) },
		func(s *api.State) { slices.Reverse(s.Refs) },
		func(s *api.State) { s.Made = nil },
		func(s *api.State) { s.Made = s.Made[1:] },
		func(s *api.State) { s.Made = s.Made[:3] },
		func(s *api.State) { s.Made = append(s.Made, made(7, 7)) },
		func(s *api.State) { s.Made = append(s.Made, s.Made[3]) },
		func(s *api.State) { s.Made = append(s.Made, api.Made{}) },
		func(s *api.State) { slices.Reverse(s.Made) },
		func(s *api.State) { s.Clashes = nil },
		func(s *api.State) { s.Clashes = s.Clashes[1:] },
		func(s *api.State) { s.Clashes = s.Clashes[:2] },
		func(s *api.State) { s.Clashes = clashes(4) },
		func(s *api.State) { s.Clashes = append(s.Clashes, s.Clashes[2]) },
		func(s *api.State) { s.Clashes = append(s.Clashes, api.Clash{}) },
		func(s *api.State) { slices.Reverse(s.Clashes) },
	}
	s := full()
	for at := range s.Refs {
		l = append(l,
			func(s *api.State) { s.Refs[at].Name += "x" },
			func(s *api.State) { s.Refs[at].Name = "" },
			func(s *api.State) { s.Refs[at].Tag = !s.Refs[at].Tag },
			func(s *api.State) { s.Refs[at].Id++ },
			func(s *api.State) { s.Refs[at].Id = top },
		)
	}
	for at := range s.Made {
		l = append(l,
			func(s *api.State) { s.Made[at].Id++ },
			func(s *api.State) { s.Made[at].Id = 0 },
			func(s *api.State) { s.Made[at].Chunk++ },
			func(s *api.State) { s.Made[at].Chunk = 0 },
		)
	}
	for at := range s.Clashes {
		l = append(l, func(s *api.State) { s.Clashes[at].Key += "x" })
		for side := range 3 {
			l = append(l,
				func(s *api.State) { x := sidesOf(&s.Clashes[at])[side]; x.Has = !x.Has },
				func(s *api.State) { sidesOf(&s.Clashes[at])[side].Val += "x" },
			)
		}
	}
	return l
}

// sidesOf is where the sides of a clash stand.
func sidesOf(c *api.Clash) [3]*api.Side {
	return [3]*api.Side{&c.Base, &c.Ours, &c.Theirs}
}

// same asks for this of two states, both ways round, and for states that stay as they are.
func same(t *testing.T, a, b api.State, want bool) {
	t.Helper()
	wasA, wasB := clone(a), clone(b)
	if state.Same(a, b) != want || state.Same(b, a) != want {
		t.Errorf("Same of %v and %v: not %v", a, b, want)
	}
	if !like(a, wasA) || !like(b, wasB) {
		t.Error("changed")
	}
}

func TestP17_1Same(t *testing.T) {
	for _, s := range []api.State{full(), one(), state.New(), {}} {
		same(t, s, s, true)
		same(t, s, clone(s), true)
	}
	same(t, full(), one(), false)
	same(t, full(), state.New(), false)
	same(t, state.New(), api.State{}, false)
}

func TestP17_1SameButOne(t *testing.T) {
	for i, change := range changes() {
		s := full()
		change(&s)
		if like(s, full()) {
			t.Error("the test's own change is none", i)
		}
		same(t, s, full(), false)
		again := full()
		change(&again)
		same(t, s, again, true)
	}
	for _, a := range []api.Ref{{}, branch("a", 0), tag("a", 0), branch("a", 1), branch("b", 0)} {
		for _, b := range []api.Ref{{}, branch("a", 0), tag("a", 0), branch("a", 1), branch("b", 0)} {
			same(t, api.State{Refs: []api.Ref{a}}, api.State{Refs: []api.Ref{b}}, a == b)
		}
	}
}

// P17.1: one by one, so that two states with changes are the same only where both have the same one.
func TestP17_1SameTwo(t *testing.T) {
	all := changes()
	for _, one := range all {
		for _, two := range all {
			a, b := full(), full()
			one(&a)
			two(&b)
			same(t, a, b, like(a, b))
		}
	}
}

// P3: a nil list and an empty one are the same.
func TestP17_1SameEmpty(t *testing.T) {
	none := api.State{Head: "a", Refs: nil, Made: nil, Clashes: nil}
	same(t, none, api.State{Head: "a", Refs: []api.Ref{}, Made: []api.Made{}, Clashes: []api.Clash{}}, true)
	same(t, none, api.State{Head: "a", Refs: full().Refs[:0], Made: full().Made[:0], Clashes: full().Clashes[:0]}, true)
	for _, s := range []api.State{{Refs: []api.Ref{{}}}, {Made: []api.Made{{}}}, {Clashes: []api.Clash{{}}}} {
		same(t, s, api.State{}, false)
		same(t, s, s, true)
	}
}

// P2: what lies behind a list's length isn't looked at.
func TestP17_1Behind(t *testing.T) {
	a, b := full(), full()
	b.Refs[4], b.Made[3], b.Clashes[2] = api.Ref{}, api.Made{}, api.Clash{}
	a.Refs, b.Refs = a.Refs[:4], b.Refs[:4]
	a.Made, b.Made = a.Made[:3], b.Made[:3]
	a.Clashes, b.Clashes = a.Clashes[:2], b.Clashes[:2]
	same(t, a, b, true)
	findsNot(t, a, 6)
	findsNot(t, b, 0)
}
