package tree_test

import (
	"maps"
	"math/rand"
	"slices"
	"strconv"
	"strings"
	"testing"

	"apograph/api"
	"apograph/chunk"
	"apograph/tree"
)

func put(key, val string) api.Edit {
	return api.Edit{Key: key, Val: val}
}

func gone(key string) api.Edit {
	return api.Edit{Key: key, Gone: true}
}

// done is a map with edits done in order, by a map of the language.
func done(l []api.Entry, edits ...api.Edit) []api.Entry {
	m := map[string]string{}
	for _, x := range l {
		m[x.Key] = x.Val
	}
	for _, x := range edits {
		if x.Gone {
			delete(m, x.Key)
		} else {
			m[x.Key] = x.Val
		}
	}
	var out []api.Entry
	for _, k := range slices.Sorted(maps.Keys(m)) {
		out = append(out, api.Entry{Key: k, Val: m[k]})
	}
	return out
}

func edits(t *testing.T, s *chunk.Store, root uint64, l ...api.Edit) uint64 {
	t.Helper()
	was := slices.Clone(l)
	id, e := tree.Edit(s, root, l)
	if e != api.OK {
		t.Fatalf("Edit of %d by %v: %d", root, l, e)
	}
	if !slices.Equal(l, was) {
		t.Fatalf("Edit changed %v", was)
	}
	return id
}

func editsNot(t *testing.T, s *chunk.Store, root uint64, want api.Errno, l ...api.Edit) {
	t.Helper()
	if id, e := tree.Edit(s, root, l); id != 0 || e != want {
		t.Fatalf("Edit of %d by %v: %d, %d, not %d", root, l, id, e, want)
	}
}

// fewer asks for at most three chunks from a number on that are leaves.
func fewer(t *testing.T, s *chunk.Store, first uint64) int {
	t.Helper()
	n := 0
	for id := range s.Ids() {
		if id < first {
			continue
		}
		if m, e := tree.Load(s, id); e != api.OK {
			t.Fatal(e)
		} else if m.Level == 0 {
			n++
		}
	}
	if n > 3 {
		t.Fatalf("%d leaves that weren't there", n)
	}
	return n
}

// one edits one key of a map in a store of its own, and asks for all that P10.3 to P10.5 say of that: the root, the bytes of what is put, its order, and how many leaves are new.
func one(t *testing.T, l []api.Entry, x api.Edit) int {
	t.Helper()
	_, s := fresh(t, 2000)
	want := newShelf()
	root := builds(t, s, l)
	want.build(l)
	first := want.next
	next := done(l, x)
	id := want.build(next)
	if got := edits(t, s, root, x); got != id {
		t.Fatalf("Edit of %d entries by %v: %d, not %d", len(l), x, got, id)
	}
	holds(t, s, want.texts())
	n := fewer(t, s, first)
	lists(t, s, id, next)
	lists(t, s, root, l)
	if (root == id) != slices.Equal(l, next) {
		t.Fatal("roots", root, id)
	}
	// And back again to the same root, with nothing new.
	var back []api.Edit
	for _, y := range l {
		if y.Key == x.Key {
			back = append(back, put(y.Key, y.Val))
		}
	}
	if back == nil {
		back = append(back, gone(x.Key))
	}
	if got := edits(t, s, id, back...); got != root {
		t.Fatalf("Edit of %d entries by %v and back: %d, not %d", len(l), x, got, root)
	}
	holds(t, s, want.texts())
	return n
}

// P10.3, P10.5: each key of a map changed, taken away, added ahead of it, behind it, and what isn't there taken away.
func TestP10_5One(t *testing.T) {
	most := map[int]bool{}
	for name, l := range samples() {
		if len(l) > 400 {
			continue
		}
		step := max(1, len(l)/8)
		most[one(t, l, put("0", "first"))] = true
		most[one(t, l, put("~~~", "last"))] = true
		most[one(t, l, gone("~~~"))] = true
		for i := 0; i < len(l); i += step {
			if i+step >= len(l) {
				i = len(l) - 1
			}
			k := l[i].Key
			for _, x := range []api.Edit{put(k, "new"), put(k, l[i].Val), put(k, ""), gone(k)} {
				most[one(t, l, x)] = true
			}
			if len(k) < 40 {
				for _, b := range []string{"\x00", "a", "b", "c", "d", "e", "f"} {
					most[one(t, l, put(k+b, "new"))] = true
				}
				most[one(t, l, gone(k+"b"))] = true
			}
			if t.Failed() {
				t.Fatal(name)
			}
		}
	}
	if !most[0] || !most[1] || !most[2] {
		t.Error(most)
	}
}

// P10.5: a key that Ends, changed, taken away and put back, and the one behind it.
func TestP10_5Ends(t *testing.T) {
	l := many(300)
	seen := 0
	for i := 0; i < len(l)-1; i++ {
		if !ends(0, l[i].Key) {
			continue
		}
		seen++
		for _, x := range []api.Entry{l[i], l[i+1]} {
			one(t, l, put(x.Key, "new"))
			one(t, l, gone(x.Key))
			one(t, done(l, gone(x.Key)), put(x.Key, "new"))
		}
		// One that doesn't End behind one that does: it stands in front of the next leaf.
		one(t, l, put(l[i].Key+pick(0, 1, false)[0], "new"))
		if seen == 15 {
			return
		}
	}
	t.Error("too few", seen)
}

// P10.3: edits in order, of the same key too.
func TestP10_3Order(t *testing.T) {
	l := many(30)
	k, no := l[10].Key, "k0031"
	for _, x := range [][]api.Edit{
		nil,
		{},
		{put(k, "1"), put(k, "2")},
		{put(k, "2"), put(k, "1")},
		{put(k, "1"), gone(k)},
		{gone(k), put(k, "1")},
		{gone(k), gone(k)},
		{gone(k), put(k, l[10].Val)},
		{put(k, "1"), put(k, l[10].Val)},
		{put(no, "1"), put(no, "2")},
		{put(no, "1"), gone(no)},
		{gone(no), put(no, "1")},
		{gone(no), gone(no)},
		{put(no, "1"), gone(no), put(no, "")},
		{put(no, "1"), put(k, "2"), gone(no), gone(k), put(no, "3"), put(k, "4"), put(no, "5")},
		{put("z", "1"), put("a", "2"), gone(k), put("k", "3"), put("z", "4")},
		{gone("z"), gone("a"), gone("k0001")},
	} {
		s, want := wide(t), newShelf()
		root := builds(t, s, l)
		want.build(l)
		next := done(l, x...)
		if got := edits(t, s, root, x...); got != want.build(next) {
			t.Fatal(x, got)
		} else {
			lists(t, s, got, next)
		}
		holds(t, s, want.texts())
		// And of the empty map.
		next = done(nil, x...)
		if got := edits(t, s, 0, x...); got != want.build(next) {
			t.Fatal(x, got)
		}
		holds(t, s, want.texts())
	}
}

// P10.3: of all keys at once.
func TestP10_3All(t *testing.T) {
	for _, n := range []int{1, 2, 10, 300} {
		s, want := wide(t), newShelf()
		l := many(n)
		var add, change, take []api.Edit
		for i := range l {
			x := l[(i*7)%n]
			if n%7 == 0 {
				t.Fatal("not all keys")
			}
			add = append(add, put(x.Key, x.Val))
			change = append(change, put(x.Key, "new"))
			take = append(take, gone(x.Key))
		}
		root := edits(t, s, 0, add...)
		if root != want.build(l) {
			t.Fatal(n, root)
		}
		holds(t, s, want.texts())
		next := edits(t, s, root, change...)
		if next != want.build(done(l, change...)) || next == root {
			t.Fatal(n, next)
		}
		holds(t, s, want.texts())
		for _, id := range []uint64{root, next} {
			if got := edits(t, s, id, take...); got != 0 {
				t.Fatal(n, got)
			}
			if got := edits(t, s, id, append(slices.Clone(take), add...)...); got != root {
				t.Fatal(n, got)
			}
			if got := edits(t, s, id, append(slices.Clone(add), take...)...); got != 0 {
				t.Fatal(n, got)
			}
		}
		holds(t, s, want.texts())
	}
}

// P10.3, P4: wrong keys, and values of those that aren't Gone, in order, ahead of what is wrong with the root.
func TestP10_3Wrong(t *testing.T) {
	long := strings.Repeat("x", 201)
	ok, key, val, both := put("a", "1"), put(long[:41], ""), put("v", long), put("", long)
	gkey, gval, gboth := gone(""), api.Edit{Key: "v", Val: long, Gone: true}, api.Edit{Key: long[:41], Val: long, Gone: true}
	s := wide(t)
	l := many(50)
	root := builds(t, s, l)
	bad := puts(t, s, "x")
	for _, x := range []struct {
		l    []api.Edit
		want api.Errno
	}{
		{[]api.Edit{put("", "")}, api.ErrKey},
		{[]api.Edit{key}, api.ErrKey},
		{[]api.Edit{val}, api.ErrValue},
		{[]api.Edit{both}, api.ErrKey},
		{[]api.Edit{gkey}, api.ErrKey},
		{[]api.Edit{gboth}, api.ErrKey},
		{[]api.Edit{ok, ok, key}, api.ErrKey},
		{[]api.Edit{ok, ok, val}, api.ErrValue},
		{[]api.Edit{ok, val, key}, api.ErrValue},
		{[]api.Edit{ok, key, val}, api.ErrKey},
		{[]api.Edit{val, gkey}, api.ErrValue},
		{[]api.Edit{gval, gkey}, api.ErrKey},
		{[]api.Edit{gval, val}, api.ErrValue},
		{[]api.Edit{gval, both}, api.ErrKey},
		{[]api.Edit{ok, gboth, val}, api.ErrKey},
		{[]api.Edit{val, gone("v")}, api.ErrValue},
	} {
		had := len(slices.Collect(s.Ids()))
		for _, id := range []uint64{0, root, bad, 9999} {
			editsNot(t, s, id, x.want, x.l...)
		}
		if len(slices.Collect(s.Ids())) != had {
			t.Error("something was put")
		}
		for _, id := range []uint64{0, 1} {
			editsNot(t, nil, id, x.want, x.l...)
			editsNot(t, &chunk.Store{}, id, x.want, x.l...)
		}
	}
	// The value of one that is Gone is nothing.
	if got := edits(t, s, root, gval); got != root {
		t.Error(got)
	}
	with := edits(t, s, root, put("v", "1"))
	if got := edits(t, s, with, gval); got != root || with == root {
		t.Error(got, with)
	}
	// The greatest that may be.
	x := put(long[:40], long[:200])
	lists(t, s, edits(t, s, root, x), done(l, x))
}

func TestP10_3Root(t *testing.T) {
	s := wide(t)
	bad := puts(t, s, "x")
	for _, l := range [][]api.Edit{nil, {put("a", "1")}, {gone("a")}} {
		editsNot(t, s, bad, api.ErrNode, l...)
		editsNot(t, s, bad+1, api.ErrNone, l...)
		for _, no := range []*chunk.Store{nil, {}} {
			editsNot(t, no, bad, api.ErrDev, l...)
		}
	}
	for _, no := range []*chunk.Store{nil, {}} {
		editsNot(t, no, 0, api.ErrDev, put("a", "1"))
		if got := edits(t, no, 0, gone("a")); got != 0 {
			t.Error(got)
		}
		if got := edits(t, no, 0, put("a", "1"), gone("a")); got != 0 {
			t.Error(got)
		}
	}
	holds(t, s, []string{"x"})
}

// P10.3: in a store that is full what is there can be told still; of what isn't, what fits is put, from the left.
func TestP10_3Full(t *testing.T) {
	l := many(60)
	next := done(l, put(l[5].Key, "new"), put(l[40].Key, "new"))
	want := newShelf()
	root := want.build(l)
	had := 0
	for _, text := range want.texts() {
		had += pages(text)
	}
	first := len(want.texts())
	id := want.build(next)
	all := want.texts()
	for room := 0; ; room++ {
		_, s := fresh(t, 1+had+room)
		if builds(t, s, l) != root {
			t.Fatal("root")
		}
		left, n := room, first
		for n < len(all) && pages(all[n]) <= left {
			left -= pages(all[n])
			n++
		}
		if n == len(all) {
			if got := edits(t, s, root, put(l[5].Key, "new"), put(l[40].Key, "new")); got != id {
				t.Fatal(got)
			}
			holds(t, s, all)
			break
		}
		editsNot(t, s, root, api.ErrSpace, put(l[5].Key, "new"), put(l[40].Key, "new"))
		holds(t, s, all[:n])
		if got := edits(t, s, root); got != root {
			t.Fatal(got)
		}
		if got := edits(t, s, root, gone("none"), put(l[7].Key, l[7].Val)); got != root {
			t.Fatal(got)
		}
	}
}

func TestP10_3Long(t *testing.T) {
	s := wide(t)
	var l []api.Edit
	for _, k := range pick(0, 20_000, false) {
		l = append(l, put(k, strings.Repeat("v", 10)))
	}
	editsNot(t, s, 0, api.ErrLong, l...)
	root := edits(t, s, 0, l[:5000]...)
	editsNot(t, s, root, api.ErrLong, l[5000:]...)
}

// P10.3: a device that dies while an Edit puts.
func TestP10_3Dies(t *testing.T) {
	for n := 0; ; n++ {
		d, s := fresh(t, 300)
		root := builds(t, s, many(40))
		d.Arm(n)
		id, e := tree.Edit(s, root, []api.Edit{put("k0061", "1")})
		if e == api.OK {
			if n < 8 || id == 0 {
				t.Fatal(n, id)
			}
			return
		}
		if id != 0 || e != api.ErrDev {
			t.Fatal(n, id, e)
		}
		editsNot(t, s, root, api.ErrDev)
	}
}

// P2: what lies behind the list's length is nothing to it; what is handed in may be changed later.
func TestP10_3Behind(t *testing.T) {
	s := wide(t)
	l := []api.Edit{put("a", "1"), put("b", "2"), put("", ""), gone("a")}
	was := slices.Clone(l)
	root := edits(t, s, 0, l[:2]...)
	if !slices.Equal(l, was) {
		t.Error("changed")
	}
	clear(l)
	lists(t, s, root, []api.Entry{{Key: "a", Val: "1"}, {Key: "b", Val: "2"}})
}

// P10.4: one map by Build, by Edits one by one in any order, by Edits at once, with keys that were there in between.
func TestP10_4Ways(t *testing.T) {
	r := rand.New(rand.NewSource(10))
	for _, l := range [][]api.Entry{many(1), many(7), many(60), many(200), entries("A", highest, "x", "y"), entries(pick(0, 40, true)...), entries(pick(0, 40, false)...)} {
		s := wide(t)
		root := builds(t, s, l)
		for range 3 {
			id := uint64(0)
			for _, i := range r.Perm(len(l)) {
				id = edits(t, s, id, put(l[i].Key, l[i].Val))
			}
			if id != root {
				t.Fatal("one by one", id, root)
			}
		}
		var all, more, less []api.Edit
		for _, i := range r.Perm(len(l)) {
			x := l[i]
			all = append(all, put(x.Key, x.Val))
			more = append(more, put(x.Key+"+", "more"), put(x.Key, "other"), put("-"+x.Key, ""))
			less = append(less, gone(x.Key+"+"), put(x.Key, x.Val), gone("-"+x.Key))
		}
		if id := edits(t, s, 0, all...); id != root {
			t.Fatal("at once", id, root)
		}
		other := edits(t, s, 0, more...)
		if other == root {
			t.Fatal("one root of unlike maps")
		}
		if id := edits(t, s, other, less...); id != root {
			t.Fatal("there and back", id, root)
		}
		if id := edits(t, s, root, append(more, less...)...); id != root {
			t.Fatal("in one", id, root)
		}
		lists(t, s, root, l)
	}
}

// P10.4: in one store one map has one root, and unlike maps unlike ones, over rows of edits by chance.
func TestP10_4Chance(t *testing.T) {
	r := rand.New(rand.NewSource(4))
	for round := range 12 {
		s := wide(t)
		roots, maps := map[string]uint64{}, map[uint64]string{}
		l, root := []api.Entry(nil), uint64(0)
		size := []int{3, 8, 40, 300}[round%4]
		for range 150 {
			var some []api.Edit
			for range 1 + r.Intn(1+r.Intn(6)) {
				some = append(some, api.Edit{Key: strconv.Itoa(r.Intn(size)), Val: strconv.Itoa(r.Intn(2)), Gone: r.Intn(3) == 0})
			}
			had := uint64(len(slices.Collect(s.Ids())))
			l, root = done(l, some...), edits(t, s, root, some...)
			if len(some) == 1 {
				fewer(t, s, had+1)
			}
			name := laid(api.Node{Entries: l})
			if id, is := roots[name]; is && id != root {
				t.Fatalf("a map has the roots %d and %d", id, root)
			}
			if m, is := maps[root]; is && m != name {
				t.Fatalf("root %d is of two maps", root)
			}
			roots[name], maps[root] = root, name
			lists(t, s, root, l)
		}
		if builds(t, s, l) != root {
			t.Fatal("Build tells another root")
		}
	}
}

// moves reads edits from bytes, does them one by one and all at once, and asks for one root.
func moves(t *testing.T, b []byte) {
	var all []api.Edit
	for len(b) >= 3 && len(all) < 100 {
		key := strings.Repeat(string(b[:1]), 1+int(b[1]%3))
		all = append(all, api.Edit{Key: key, Val: string(b[2:3]), Gone: b[1] >= 192})
		b = b[3:]
	}
	_, s := fresh(t, 4000)
	root := uint64(0)
	for i, x := range all {
		had := uint64(len(slices.Collect(s.Ids())))
		root = edits(t, s, root, x)
		fewer(t, s, had+1)
		if i%10 == 0 {
			lists(t, s, root, done(nil, all[:i+1]...))
		}
	}
	l := done(nil, all...)
	lists(t, s, root, l)
	want := newShelf()
	_, other := fresh(t, 4000)
	if id := edits(t, other, 0, all...); id != want.build(l) {
		t.Fatal(id)
	}
	holds(t, other, want.texts())
	for _, id := range []uint64{edits(t, s, 0, all...), edits(t, s, root, all...), builds(t, s, l)} {
		if id != root {
			t.Fatal(id, root)
		}
	}
}

func FuzzEdits(f *testing.F) {
	f.Add([]byte("a0bc1dd2e\xff\xff\x00dd2e\x00\x00\x00"))
	r := rand.New(rand.NewSource(1))
	for range 20 {
		b := make([]byte, r.Intn(300))
		r.Read(b)
		f.Add(b)
	}
	f.Fuzz(moves)
}
