package state_test

import (
	"math/rand"
	"regexp"
	"slices"
	"strings"
	"testing"

	"apograph/api"
	"apograph/conflict"
	"apograph/state"
)

var may = regexp.MustCompile(`\A[a-z][a-z0-9-]{0,19}\z`)

// rise tells whether a list does, by a sorted one in which each stands once.
func rise[T uint64 | string](l []T) bool {
	x := slices.Clone(l)
	slices.Sort(x)
	return slices.Equal(slices.Compact(x), l)
}

// meant tells whether a state is right, all that the chapter asks asked at once.
func meant(s api.State) bool {
	var names []string
	var ids []uint64
	chunks, at, heads := true, true, 0
	for _, m := range s.Made {
		ids = append(ids, m.Id)
		chunks = chunks && m.Chunk != 0
	}
	for _, r := range s.Refs {
		names = append(names, r.Name)
		at = at && may.MatchString(r.Name) && (slices.Contains(ids, r.Id) || !r.Tag && r.Id == 0)
		if r == branch(s.Head, r.Id) {
			heads++
		}
	}
	within := len(ids) == 0 || slices.Min(ids) > 0 && slices.Max(ids) < s.Next
	waits := slices.Contains(ids, s.Pending)
	return s.Next != 0 && len(names) <= 40 && rise(names) && at && heads == 1 &&
		len(ids) <= 200 && rise(ids) && within && chunks &&
		(s.Pending == 0 || waits) && (waits || len(s.Clashes) == 0) && conflict.Right(s.Clashes) == api.OK
}

// right asks for this of a state, and for one that stays as it is.
func right(t *testing.T, s api.State, want bool) {
	t.Helper()
	if meant(s) != want {
		t.Fatalf("%v isn't what the test means", s)
	}
	was, e := clone(s), api.ErrState
	if want {
		e = api.OK
	}
	for range 2 {
		if got := state.Right(s); got != e {
			t.Fatalf("Right of %v: %d, not %d", s, got, e)
		}
	}
	if !like(s, was) {
		t.Fatal("changed", s)
	}
}

// names are such that may not be.
func names() []string {
	return []string{"", "A", "Main", "mAin", "0", "1a", "-", "-a", "a b", " a", "a ", "a_b", "a.b", "a/b", "é", "aé", "a\x00", "\x00", "a\n", "{", "`a", "\xff", strings.Repeat("a", 21), strings.Repeat("a", 1<<16)}
}

// faults are such that each of them makes a right state, if it has something of everything, a wrong one.
func faults() map[string]func(*api.State) {
	l := map[string]func(*api.State){
		"next 0":             func(s *api.State) { s.Next = 0 },
		"next 1":             func(s *api.State) { s.Next = 1 },
		"next is a made":     func(s *api.State) { s.Next = s.Made[len(s.Made)-1].Id },
		"no refs":            func(s *api.State) { s.Refs = nil },
		"empty refs":         func(s *api.State) { s.Refs = []api.Ref{} },
		"41 refs":            func(s *api.State) { s.Refs = manyRefs(41); s.Head = "r000" },
		"42 refs":            func(s *api.State) { s.Refs = manyRefs(42); s.Head = "r039" },
		"no head":            func(s *api.State) { s.Head = "" },
		"another head":       func(s *api.State) { s.Head = "nowhere" },
		"head cut":           func(s *api.State) { s.Head = s.Head[1:] },
		"head longer":        func(s *api.State) { s.Head += "-" },
		"head in capitals":   func(s *api.State) { s.Head = strings.ToUpper(s.Head) },
		"head a tag":         func(s *api.State) { s.Refs = append(s.Refs, tag("zz", s.Made[0].Id)); s.Head = "zz" },
		"head made a tag":    func(s *api.State) { s.Refs[slices.Index(s.Refs, head(*s))].Tag = true },
		"head twice":         func(s *api.State) { s.Refs = append(s.Refs, head(*s)) },
		"tag at 0":           func(s *api.State) { s.Refs = append(s.Refs, tag("zz", 0)) },
		"branch at none":     func(s *api.State) { s.Refs = append(s.Refs, branch("zz", s.Made[len(s.Made)-1].Id+1)) },
		"tag at none":        func(s *api.State) { s.Refs = append(s.Refs, tag("zz", s.Made[len(s.Made)-1].Id+1)) },
		"branch at top":      func(s *api.State) { s.Refs = append(s.Refs, branch("zz", top)) },
		"no made":            func(s *api.State) { s.Made = nil },
		"empty made":         func(s *api.State) { s.Made = []api.Made{} },
		"201 made":           func(s *api.State) { s.Made = manyMade(201); s.Next = 202 },
		"1000 made":          func(s *api.State) { s.Made = manyMade(1000); s.Next = top },
		"made is next":       func(s *api.State) { s.Made = append(s.Made, made(s.Next, 1)) },
		"made above next":    func(s *api.State) { s.Made = append(s.Made, made(s.Next+1, 1)) },
		"made at top":        func(s *api.State) { s.Made = append(s.Made, made(top, 1)) },
		"made twice":         func(s *api.State) { s.Made = append(s.Made, s.Made[len(s.Made)-1]) },
		"made 0":             func(s *api.State) { s.Made = slices.Insert(s.Made, 0, made(0, 1)) },
		"made 0 alone":       func(s *api.State) { s.Made = []api.Made{made(0, 1)} },
		"chunk 0":            func(s *api.State) { s.Made[0].Chunk = 0 },
		"last chunk 0":       func(s *api.State) { s.Made[len(s.Made)-1].Chunk = 0 },
		"pending none":       func(s *api.State) { s.Pending = s.Made[len(s.Made)-1].Id + 1 },
		"pending next":       func(s *api.State) { s.Pending = s.Next },
		"pending top":        func(s *api.State) { s.Pending = top },
		"clashes of nothing": func(s *api.State) { s.Pending = 0 },
		"clash twice":        func(s *api.State) { s.Clashes = append(s.Clashes, s.Clashes[len(s.Clashes)-1]) },
		"clash without key":  func(s *api.State) { s.Clashes[0].Key = "" },
		"clash of long key":  func(s *api.State) { s.Clashes[len(s.Clashes)-1].Key = strings.Repeat("k", 41) },
		"clash of long val":  func(s *api.State) { s.Clashes[0].Ours = has(strings.Repeat("v", 201)) },
		"clash without val":  func(s *api.State) { s.Clashes[0].Base = api.Side{Val: "1"} },
		"no clash":           func(s *api.State) { s.Clashes[0].Theirs = s.Clashes[0].Ours },
		"ours unchanged":     func(s *api.State) { s.Clashes[0].Ours = s.Clashes[0].Base },
		"theirs unchanged":   func(s *api.State) { s.Clashes[0].Theirs = s.Clashes[0].Base },
	}
	for _, name := range names() {
		l["ref "+name] = func(s *api.State) { s.Refs[0].Name = name }
		l["head "+name] = func(s *api.State) { s.Refs[slices.Index(s.Refs, head(*s))].Name = name; s.Head = name }
	}
	return l
}

// head is the branch that is a right state's Head.
func head(s api.State) api.Ref {
	for _, r := range s.Refs {
		if r.Name == s.Head {
			return r
		}
	}
	return api.Ref{}
}

func TestP17_2RightFaults(t *testing.T) {
	for what, spoil := range faults() {
		for _, s := range []api.State{full(), one()} {
			right(t, s, true)
			t.Run(what, func(t *testing.T) {
				spoil(&s)
				right(t, s, false)
			})
		}
	}
}

// P17.2: what just stays within.
func edges() []api.State {
	long, last := strings.Repeat("z", 20), uint64(top-1)
	l := []api.State{
		state.New(), full(), one(),
		{Head: "a", Next: 1, Refs: []api.Ref{branch("a", 0)}},
		{Head: "a", Next: top, Refs: []api.Ref{branch("a", 0)}, Made: []api.Made{}, Clashes: []api.Clash{}},
		{Head: "a", Work: top, Next: top, Pending: last, Refs: []api.Ref{branch("a", last), tag("a-", last), tag(long, 1)}, Made: []api.Made{made(1, top), made(last, 1)}},
		{Head: long, Next: 2, Pending: 1, Refs: []api.Ref{branch(long[1:], 0), branch(long, 0)}, Made: []api.Made{made(1, 1)}},
		{Head: "a", Work: 3, Next: 300, Refs: []api.Ref{branch("a", 0), branch("b", 0), branch("c", 128)}, Made: []api.Made{made(127, 9), made(128, 9), made(299, 300)}},
		{Head: "a0", Next: 2, Refs: []api.Ref{tag("a", 1), tag("a-", 1), branch("a0", 1), branch("aa", 1)}, Made: []api.Made{made(1, 1)}},
	}
	for _, many := range []int{1, 2, 127, 128, 199, 200} {
		all := manyMade(many)
		for _, next := range []uint64{uint64(many) + 1, uint64(many) + 2, top} {
			for _, pending := range []uint64{0, 1, uint64(many)} {
				l = append(l, api.State{Head: "r002", Next: next, Pending: pending, Refs: manyRefs(3), Made: all})
			}
		}
	}
	for _, many := range []int{1, 2, 4, 39, 40} {
		for _, r := range manyRefs(many) {
			if !r.Tag {
				l = append(l, api.State{Head: r.Name, Next: 2, Refs: manyRefs(many), Made: manyMade(1)})
			}
		}
	}
	for _, many := range []int{0, 1, 2, 127, 128, 999, 1000} {
		s := full()
		s.Clashes = clashes(many)
		l = append(l, s)
	}
	return l
}

func TestP17_2RightEdges(t *testing.T) {
	for _, s := range edges() {
		right(t, s, true)
	}
	// How many clashes a record may have is Put's to ask.
	for _, many := range []int{1001, 1002, 5000} {
		s := full()
		s.Clashes = clashes(many)
		right(t, s, true)
		s.Clashes[many-1].Key = s.Clashes[0].Key
		right(t, s, false)
	}
	right(t, api.State{}, false)
	for _, next := range []uint64{1, 2, 1 << 32, 1 << 63, top} {
		s := state.New()
		s.Next = next
		right(t, s, true)
	}
	for _, work := range []uint64{0, 1, 1 << 63, top} {
		s := state.New()
		s.Work = work
		right(t, s, true)
	}
}

// P17.2: names at each place, two of one name, and all orders.
func TestP17_2RightNames(t *testing.T) {
	for at := range 5 {
		for _, name := range names() {
			s := full()
			s.Refs[at].Name = name
			right(t, s, false)
		}
		for other := range 5 {
			s := full()
			s.Refs[at].Name = s.Refs[other].Name
			right(t, s, at == other)
			s = full()
			s.Refs[at], s.Refs[other] = s.Refs[other], s.Refs[at]
			right(t, s, at == other)
		}
	}
	refs := []api.Ref{branch("a", 1), branch("a-", 1), branch("a-0", 1), branch("a0", 1), branch("a10", 1), branch("a9", 1), branch("aa", 1), branch("b", 1), tag("ba", 1)}
	for i, a := range refs {
		for j, b := range refs {
			s := one()
			s.Head, s.Refs = a.Name, []api.Ref{a, b}
			right(t, s, i < j)
			for k, c := range refs {
				s.Refs = []api.Ref{a, b, c}
				right(t, s, i < j && j < k)
			}
		}
	}
}

// P17.2: where each of a state's Refs is, a branch and a tag.
func TestP17_2RightIds(t *testing.T) {
	for at := range 5 {
		for _, id := range []uint64{0, 1, 2, 3, 4, 5, 6, 7, 8, 9, 10, 257, 1<<32 + 1, 1<<63 + 1, top} {
			made := slices.Contains([]uint64{1, 3, 4, 6}, id)
			s := full()
			s.Head = []string{"main", "new", "dev", "dev", "dev"}[at]
			s.Refs[at].Id, s.Refs[at].Tag = id, false
			right(t, s, made || id == 0)
			s.Refs[at].Tag = true
			right(t, s, made)
			s = full()
			s.Pending = id
			right(t, s, made)
			s.Clashes = nil
			right(t, s, made || id == 0)
		}
	}
}

// P17.2: which Ref is the Head.
func TestP17_2RightHead(t *testing.T) {
	for head, want := range map[string]bool{"dev": true, "main": true, "new": true, "v1": false, "v2": false, "": false, "mai": false, "maine": false, "v": false, "main ": false, "zz": false, strings.Repeat("m", 21): false} {
		s := full()
		s.Head = head
		right(t, s, want)
	}
	s := full()
	s.Refs = s.Refs[3:]
	for _, head := range []string{"v1", "v2", "main", ""} {
		s.Head = head
		right(t, s, false)
	}
}

// P17.2: Ids and chunks of each place, and the Next above them.
func TestP17_2RightMade(t *testing.T) {
	numbers := []uint64{0, 1, 2, 3, 4, 5, 6, 7, 8, 9, 10, top}
	for at := range 4 {
		for _, id := range numbers {
			s := state.New()
			s.Next, s.Made = 9, full().Made
			s.Made[at].Id = id
			right(t, s, id > 0 && id < 9 && rise([]uint64{s.Made[0].Id, s.Made[1].Id, s.Made[2].Id, s.Made[3].Id}))
		}
		for other := range 4 {
			s := full()
			s.Made[at], s.Made[other] = s.Made[other], s.Made[at]
			right(t, s, at == other)
		}
		s := full()
		s.Made[at].Chunk = 0
		right(t, s, false)
		s.Made[at].Chunk = top
		right(t, s, true)
	}
	for _, next := range numbers {
		s := full()
		s.Next = next
		right(t, s, next > 6)
	}
	for _, many := range []int{200, 201, 202, 256, 300, 456} {
		s := full()
		s.Made, s.Next = manyMade(many), top
		right(t, s, many == 200)
		s.Refs = manyRefs(40)
		s.Head = "r039"
		right(t, s, many == 200)
	}
	for _, many := range []int{40, 41, 42, 80, 256, 296} {
		s := one()
		s.Refs, s.Head = manyRefs(many), "r000"
		right(t, s, many == 40)
	}
}

// P17.2: clashes of which conflict.Right has an error, at each place, with a Pending and without one.
func TestP17_2RightClashes(t *testing.T) {
	long := strings.Repeat("x", 201)
	for at := range 3 {
		for side := range 3 {
			for _, x := range []api.Side{has(long), {Val: "1"}, {Val: long}} {
				s := full()
				*sidesOf(&s.Clashes[at])[side] = x
				right(t, s, false)
			}
			s := full()
			*sidesOf(&s.Clashes[at])[side] = *sidesOf(&s.Clashes[at])[(side+1)%3]
			right(t, s, false)
		}
		for _, key := range []string{"", long[:41], long} {
			s := full()
			s.Clashes[at].Key = key
			right(t, s, false)
		}
		for other := range 3 {
			s := full()
			s.Clashes[at].Key = s.Clashes[other].Key
			right(t, s, at == other)
			s = full()
			s.Clashes[at], s.Clashes[other] = s.Clashes[other], s.Clashes[at]
			right(t, s, at == other)
		}
	}
	for many := range 4 {
		for _, pending := range []uint64{0, 1, 2, 3} {
			s := full()
			s.Clashes, s.Pending = clashes(many), pending
			right(t, s, pending%2 == 1 || many == 0 && pending == 0)
		}
	}
}

// P17.2: two faults at once, of which the second one is laid where it still can be.
func TestP17_2RightTwoFaults(t *testing.T) {
	all, two := faults(), 0
	for _, a := range all {
		for _, b := range all {
			s := full()
			a(&s)
			if s.Head == "" || head(s).Name != s.Head || len(s.Made) == 0 {
				continue
			}
			b(&s)
			if meant(s) {
				continue // the second one took the first one back
			}
			right(t, s, false)
			putsNot(t, s)
			two++
		}
	}
	if two < 1000 {
		t.Error("too few", two)
	}
}

// every calls f with all states of few things.
func every(f func(api.State)) {
	var lists [][]api.Made
	var refs [][]api.Ref
	pairs := func(l []api.Made) {
		lists = append(lists, nil)
		for _, a := range l {
			lists = append(lists, []api.Made{a})
			for _, b := range l {
				lists = append(lists, []api.Made{a, b})
			}
		}
	}
	pairs([]api.Made{made(0, 1), made(1, 1), made(2, 1), made(2, 0), made(3, 2)})
	all := []api.Ref{branch("a", 0), branch("a", 1), tag("a", 1), branch("b", 2), tag("b", 0), tag("b", 2), branch("B", 1)}
	refs = append(refs, nil)
	for _, a := range all {
		refs = append(refs, []api.Ref{a})
		for _, b := range all {
			refs = append(refs, []api.Ref{a, b})
		}
	}
	for _, m := range lists {
		for _, r := range refs {
			for _, head := range []string{"a", "b", "B"} {
				for next := range uint64(5) {
					for pending := range uint64(3) {
						for many := range 2 {
							f(api.State{Head: head, Next: next, Pending: pending, Refs: r, Made: m, Clashes: clashes(many)})
						}
					}
				}
			}
		}
	}
}

func TestP17_2RightEvery(t *testing.T) {
	told := map[bool]int{}
	every(func(s api.State) {
		is := meant(s)
		right(t, s, is)
		told[is]++
	})
	if told[true] < 100 || told[false] < 100_000 {
		t.Error("too few", told)
	}
}

// chance is a state that is mostly right, all its sizes by chance.
func chance(r *rand.Rand) api.State {
	s := api.State{Work: r.Uint64() >> r.Intn(64)}
	id := uint64(0)
	for range r.Intn(1 << r.Intn(9)) {
		id += 1 + r.Uint64()>>(8+r.Intn(56))
		s.Made = append(s.Made, made(id, 1+r.Uint64()>>(1+r.Intn(63))))
	}
	s.Next = id + 1 + r.Uint64()>>(8+r.Intn(56))
	pick := func() uint64 {
		if len(s.Made) == 0 || r.Intn(9) == 0 {
			return 0
		}
		return s.Made[r.Intn(len(s.Made))].Id
	}
	for _, x := range manyRefs(r.Intn(44)) {
		x.Id = pick()
		x.Tag = x.Id != 0 && r.Intn(3) == 0
		x.Name += strings.Repeat("x", r.Intn(17))
		s.Refs = append(s.Refs, x)
	}
	if len(s.Refs) > 0 {
		s.Head = s.Refs[r.Intn(len(s.Refs))].Name
	}
	s.Pending = pick()
	if s.Pending != 0 || r.Intn(20) == 0 {
		s.Clashes = clashes(r.Intn(8))
	}
	return s
}

func TestP17_2RightChance(t *testing.T) {
	r := rand.New(rand.NewSource(17))
	told := map[bool]int{}
	for range 10_000 {
		s := chance(r)
		is := meant(s)
		right(t, s, is)
		told[is]++
	}
	if told[true] < 2000 || told[false] < 2000 {
		t.Error("too few", told)
	}
}

// P2: what lies behind a list's length isn't looked at.
func TestP17_2RightBehind(t *testing.T) {
	s := full()
	s.Refs = append(s.Refs, api.Ref{}, tag("A", 0))[:5]
	s.Made = append(s.Made, api.Made{}, made(top, 0))[:4]
	s.Clashes = append(s.Clashes, api.Clash{})[:3]
	right(t, s, true)
	s.Refs = s.Refs[:6]
	right(t, s, false)
	s.Refs = s.Refs[:5]
	s.Made = s.Made[:5]
	right(t, s, false)
	s.Made = s.Made[:4]
	s.Clashes = s.Clashes[:4]
	right(t, s, false)
	// A Ref at a commit that stands behind the length.
	s.Clashes, s.Made = nil, s.Made[:3]
	right(t, s, false)
}
