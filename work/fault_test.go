package work_test

import (
	"slices"
	"strconv"
	"strings"
	"testing"

	"apograph/api"
	"apograph/chunk"
	"apograph/node"
	"apograph/tree"
	"apograph/work"
)

// no asks that an answer of a call that works on a root is this error, and 0 beside it.
func no(t *testing.T, want api.Errno) func(id uint64, e api.Errno) {
	return func(id uint64, e api.Errno) {
		t.Helper()
		if id != 0 || e != want {
			t.Fatalf("%d, %d, not 0, %d", id, e, want)
		}
	}
}

// noEntries and noChanges ask likewise of Scan and Status.
func noEntries(t *testing.T, want api.Errno) func(l []api.Entry, e api.Errno) {
	return func(l []api.Entry, e api.Errno) {
		t.Helper()
		if len(l) != 0 || e != want {
			t.Fatalf("%v, %d, not %d", l, e, want)
		}
	}
}

func noChanges(t *testing.T, want api.Errno) func(l []api.Change, e api.Errno) {
	return func(l []api.Change, e api.Errno) {
		t.Helper()
		if len(l) != 0 || e != want {
			t.Fatalf("%v, %d, not %d", l, e, want)
		}
	}
}

// nothing asks that each call answers this error of a root, behind those of its other arguments.
func nothing(t *testing.T, s *chunk.Store, root uint64, want api.Errno) {
	t.Helper()
	long := strings.Repeat("x", 201)
	no(t, want)(work.Put(s, root, "a", "1"))
	no(t, api.ErrKey)(work.Put(s, root, "", "1"))
	no(t, api.ErrKey)(work.Put(s, root, long[:41], long))
	no(t, api.ErrValue)(work.Put(s, root, long[:40], long))
	no(t, want)(work.Del(s, root, "a"))
	no(t, api.ErrKey)(work.Del(s, root, ""))
	no(t, api.ErrKey)(work.Del(s, root, long[:41]))
	no(t, want)(work.Do(s, root, nil))
	no(t, want)(work.Do(s, root, []api.Edit{gone("a")}))
	no(t, want)(work.Do(s, root, fills(401)))
	no(t, api.ErrKey)(work.Do(s, root, append(fills(401), put("", long))))
	no(t, api.ErrValue)(work.Do(s, root, append(fills(401), put("a", long), gone(""))))
	for _, most := range []int{0, 1, 2, 400, 1 << 62} {
		noEntries(t, want)(work.Scan(s, root, "", "", most))
		noEntries(t, want)(work.Scan(s, root, "b", "a", most))
		noEntries(t, want)(work.Scan(s, root, long, long, most))
	}
	noEntries(t, api.ErrRange)(work.Scan(s, root, "", "", -1))
	noEntries(t, api.ErrRange)(work.Scan(s, root, "b", "a", -1<<63))
	for _, x := range []uint64{0, root} {
		noChanges(t, want)(work.Status(s, root, x))
		noChanges(t, want)(work.Status(s, x, root))
	}
}

// P18.1, P18.2, P4: roots that are no tree's.
func TestP18Root(t *testing.T) {
	b := wide(t)
	good := b.builds(many(50))
	bad := []uint64{b.puts("x"), b.puts(""), b.puts("\x00"), b.puts("\x00\x00"), b.puts("\x00\x01\x00\x00"), b.puts("\x00\x02\x01b\x00\x01a\x00"), b.puts("\x15\x01\x01a\x01")}
	for _, root := range bad {
		if _, e := tree.Load(b.s, root); e != api.ErrNode {
			t.Fatal(root, e)
		}
		nothing(t, b.s, root, api.ErrNode)
		noChanges(t, api.ErrNode)(work.Status(b.s, root, good))
		noChanges(t, api.ErrNode)(work.Status(b.s, good, root))
	}
	for _, root := range []uint64{uint64(len(b.texts)) + 1, 1 << 32, 1<<64 - 1} {
		nothing(t, b.s, root, api.ErrNone)
		noChanges(t, api.ErrNone)(work.Status(b.s, root, good))
		noChanges(t, api.ErrNone)(work.Status(b.s, good, root))
	}
	b.all()
	// A root whose chunk is gone.
	b.s.Keep(func(id uint64) bool { return id != good })
	nothing(t, b.s, good, api.ErrNone)
}

// P18.1, P18.2: a Store that nobody made, and one whose device has died, have the empty map alone.
func TestP18Nobody(t *testing.T) {
	b := wide(t)
	root := b.builds(many(50))
	b.d.Arm(0)
	no(t, api.ErrDev)(work.Put(b.s, root, "a", "1"))
	for _, s := range []*chunk.Store{nil, {}, b.s} {
		for _, x := range []uint64{1, root, 1 << 40, 1<<64 - 1} {
			nothing(t, s, x, api.ErrDev)
		}
		no(t, api.ErrDev)(work.Put(s, 0, "a", "1"))
		no(t, api.ErrKey)(work.Put(s, 0, "", "1"))
		no(t, api.ErrValue)(work.Put(s, 0, "a", strings.Repeat("x", 201)))
		no(t, api.ErrNone)(work.Del(s, 0, "a"))
		no(t, api.ErrKey)(work.Del(s, 0, ""))
		no(t, api.ErrDev)(work.Do(s, 0, fills(401)))
		no(t, api.ErrKey)(work.Do(s, 0, append(fills(401), gone(""))))
		no(t, api.OK)(work.Do(s, 0, nil))
		no(t, api.OK)(work.Do(s, 0, []api.Edit{put("a", "1"), gone("a"), gone("b")}))
		for _, most := range []int{0, 1, 400} {
			noEntries(t, api.OK)(work.Scan(s, 0, "", "", most))
		}
		noEntries(t, api.ErrRange)(work.Scan(s, 0, "", "", -1))
		noChanges(t, api.OK)(work.Status(s, 0, 0))
	}
}

// P18.1: a device that dies at each write of a call.
func TestP18_1Dies(t *testing.T) {
	for name, f := range map[string]func(b *bench, root uint64) (uint64, api.Errno){
		"Put": func(b *bench, root uint64) (uint64, api.Errno) { return work.Put(b.s, root, "k0061", "1") },
		"Del": func(b *bench, root uint64) (uint64, api.Errno) { return work.Del(b.s, root, "k0060") },
		"Do": func(b *bench, root uint64) (uint64, api.Errno) {
			return work.Do(b.s, root, []api.Edit{gone("k0003"), put("k0061", "1")})
		},
		"many": func(b *bench, root uint64) (uint64, api.Errno) { return work.Do(b.s, root, fills(401)) },
	} {
		for n := 0; ; n++ {
			b := newBench(t, 1000)
			root := b.builds(many(40)[1:])
			b.d.Arm(n)
			id, e := f(b, root)
			if e != api.ErrDev {
				if n < 4 || (name == "many") != (e == api.ErrMany) || (name == "many") != (id == 0) {
					t.Fatal(name, n, id, e)
				}
				break
			}
			if id != 0 {
				t.Fatal(name, n, id)
			}
			nothing(t, b.s, root, api.ErrDev)
		}
	}
}

// pages are how many pages a text takes.
func pages(text string) int {
	return max(1, (len(text)+123)/124)
}

// fits is how many of the texts from a place on fit into so many pages.
func fits(texts []string, room int) int {
	n := 0
	for n < len(texts) && pages(texts[n]) <= room {
		room -= pages(texts[n])
		n++
	}
	return n
}

// P18.1: a store that is full, at each node that a call puts. What it has is told still, and what needs no room is done.
func TestP18_1Full(t *testing.T) {
	for _, x := range []struct {
		n     int
		edits []api.Edit
		want  api.Errno
	}{
		{60, []api.Edit{put("k0061", strings.Repeat("v", 200))}, api.OK},
		{60, []api.Edit{gone("k0060")}, api.OK},
		{60, []api.Edit{put("k0015", "new"), gone("k0120"), put("~", "last")}, api.OK},
		{400, []api.Edit{put("~", "one too many")}, api.ErrMany},
		{0, fills(50), api.OK},
		{0, fills(401), api.ErrMany},
	} {
		for room := 1; ; room++ {
			all := wide(t)
			all.meant(many(x.n))
			first, had := len(all.texts), 0
			for _, text := range all.texts {
				had += pages(text)
			}
			want, fault := uint64(0), x.want
			if id := all.meant(done(many(x.n), x.edits...)); fault == api.OK {
				want = id
			}
			b := newBench(t, 1+had+room)
			root := b.builds(many(x.n))
			n := fits(all.texts[first:], room)
			if first+n < len(all.texts) {
				want, fault = 0, api.ErrSpace
			}
			id, e := work.Do(b.s, root, x.edits)
			b.texts = all.texts[:first+n]
			b.answered(id, e, want, fault)
			if len(x.edits) == 1 && !x.edits[0].Gone {
				id, e = work.Put(b.s, root, x.edits[0].Key, x.edits[0].Val)
				b.answered(id, e, want, fault)
			} else if len(x.edits) == 1 {
				id, e = work.Del(b.s, root, x.edits[0].Key)
				b.answered(id, e, want, fault)
			}
			b.full(root)
			if fault != api.ErrSpace {
				if room < 3 {
					t.Fatal(room)
				}
				break
			}
		}
	}
}

// full asks for what can be done in a store without room.
func (b *bench) full(root uint64) {
	b.Helper()
	l := b.maps[root]
	b.answered(root, api.OK, b.does(root, gone("none")), api.OK)
	if len(l) > 0 {
		b.sets(root, l[0].Key, l[0].Val)
	}
	var all []api.Edit
	for _, x := range l {
		all = append(all, gone(x.Key))
	}
	b.does(root, all...)
	b.takes(root, "none")
	b.takes(root, "")
	b.scans(root, "", "", 0, l)
	b.differs(root, 0)
}

// spans is the pages of each chunk.
func (b *bench) spans() map[uint64]api.Span {
	m := map[uint64]api.Span{}
	l := b.s.Spans()
	for id := range b.s.Ids() {
		m[id] = l[len(m)]
	}
	return m
}

// fault lays a fault on pages, or takes it away.
func (b *bench) fault(at api.Span, on bool) {
	for i := range 4 * at.Pages {
		b.d.Fault(4*at.Start+i, on)
	}
}

// way is the nodes that lie on a key's way down.
func (b *bench) way(root uint64, key string) []uint64 {
	l := []uint64{root}
	for {
		n, e := node.Of([]byte(b.texts[l[len(l)-1]-1]))
		if e != api.OK {
			b.Fatal(e)
		}
		at := slices.IndexFunc(n.Kids, func(k api.Kid) bool { return k.Last >= key })
		if at < 0 {
			return l
		}
		l = append(l, n.Kids[at].Id)
	}
}

// P18.1, P18.2: a store where one chunk can't be read, whichever it is.
func TestP18Unread(t *testing.T) {
	b := wide(t)
	root := b.builds(many(60))
	next := b.does(root, put("k0061", "1"), gone("k0120"))
	b.sets(root, "k0000", "new")
	other := b.puts("other")
	b.holds()
	at := b.spans()
	nodes, _ := tree.Nodes(b.s, root)
	if len(nodes) < 10 || slices.Contains(nodes, other) {
		t.Fatal(nodes)
	}
	b.fault(at[other], true)
	b.scans(root, "", "", 0, many(60))
	b.differs(root, next)
	if id, e := work.Put(b.s, root, "k0000", "new"); id == 0 || e != api.OK {
		t.Fatal(id, e)
	}
	b.fault(at[other], false)
	met := map[api.Errno]int{}
	for _, x := range nodes {
		b.fault(at[x], true)
		for _, key := range []string{"k0000", "k0060", "k0061", "k0177", "~", "0"} {
			want := api.ErrRead
			if _, is := values(many(60))[key]; !is && !slices.Contains(b.way(root, key), x) {
				want = api.ErrNone
			}
			met[want]++
			no(t, want)(work.Del(b.s, root, key))
			no(t, api.ErrRead)(work.Put(b.s, root, key, "new"))
			no(t, api.ErrRead)(work.Do(b.s, root, []api.Edit{gone(key)}))
			noEntries(t, api.ErrRead)(work.Scan(b.s, root, key, "", 1))
			noEntries(t, api.ErrRead)(work.Scan(b.s, root, "", key, 0))
		}
		no(t, api.ErrKey)(work.Del(b.s, root, ""))
		no(t, api.ErrRead)(work.Do(b.s, root, nil))
		no(t, api.ErrRead)(work.Do(b.s, root, fills(401)))
		noEntries(t, api.ErrRead)(work.Scan(b.s, root, "", "", 0))
		noEntries(t, api.ErrRead)(work.Scan(b.s, root, "z", "a", 1))
		noEntries(t, api.ErrRange)(work.Scan(b.s, root, "", "", -1))
		noChanges(t, api.ErrRead)(work.Status(b.s, 0, root))
		noChanges(t, api.ErrRead)(work.Status(b.s, root, 0))
		b.fault(at[x], false)
	}
	if met[api.ErrNone] < 10 || met[api.ErrRead] < 10 {
		t.Error(met)
	}
	b.all()
}

// P18.2: of two roots just those leaves are read that one has alone, and all nodes above the leaves.
func TestP18_2Skipped(t *testing.T) {
	b := wide(t)
	root := b.builds(many(300))
	next := b.does(root, put("k0000", "new"), gone("k0450"), put("~", "last"))
	at := b.spans()
	x, _ := tree.Leaves(b.s, root)
	y, _ := tree.Leaves(b.s, next)
	shared := 0
	for id := range at {
		is := func(l []api.Kid) bool {
			return slices.ContainsFunc(l, func(k api.Kid) bool { return k.Id == id })
		}
		b.fault(at[id], true)
		if is(x) && is(y) {
			shared++
			b.differs(root, next)
		} else {
			noChanges(t, api.ErrRead)(work.Status(b.s, root, next))
			noChanges(t, api.ErrRead)(work.Status(b.s, next, root))
		}
		if is(x) {
			b.differs(root, root)
			noEntries(t, api.ErrRead)(work.Scan(b.s, root, "", "", 0))
		}
		b.fault(at[id], false)
	}
	if shared < 50 {
		t.Error(shared)
	}
	b.all()
}

// P18.1: a root is told, and keys are counted, also where what was put can't be read.
func TestP18_1PutUnread(t *testing.T) {
	for _, n := range []int{0, 60, 399, 400} {
		b := newBench(t, 2000)
		root := b.builds(many(n))
		free := b.spans()
		for page := range 2000 {
			b.fault(api.Span{Start: page, Pages: 1}, true)
		}
		for _, at := range free {
			b.fault(at, false)
		}
		want, fault := b.next(root, []api.Edit{put("more", "1")})
		id, e := work.Put(b.s, root, "more", "1")
		if id != want || e != fault {
			t.Fatal(n, id, e)
		}
		if id != 0 {
			noEntries(t, api.ErrRead)(work.Scan(b.s, id, "", "", 0))
		}
		for page := range 2000 {
			b.fault(api.Span{Start: page, Pages: 1}, false)
		}
		b.all()
	}
}

// crafts puts a node that is right, whatever its children are.
func (b *bench) crafts(n api.Node) api.Kid {
	b.Helper()
	text, e := node.Put(n)
	if e != api.OK {
		b.Fatal(n, e)
	}
	return api.Kid{Last: node.Last(n), Id: b.puts(string(text))}
}

// plain is n keys of one length, rising, of which none Ends at the lowest levels.
func plain(n int) []string {
	var l []string
	for i := 100; len(l) < n; i++ {
		k := strconv.Itoa(i)
		if !ends(0, k) && !ends(1, k) && !ends(2, k) {
			l = append(l, k)
		}
	}
	return l
}

// P18.1, P18.2: trees that no map has. Whether Del's key is there is told by its way alone.
func TestP18Odd(t *testing.T) {
	b := wide(t)
	k := plain(6)
	all := of(k[0]+"=1", k[1]+"=2", k[3]+"=3", k[4]+"=4")
	one, two := b.crafts(api.Node{Entries: all[:2]}), b.crafts(api.Node{Entries: all[2:]})
	x := b.puts("x")
	// A child that is no node.
	root := b.crafts(api.Node{Level: 1, Kids: []api.Kid{one, two, {Last: k[5], Id: x}}}).Id
	no(t, api.ErrNode)(work.Del(b.s, root, k[0]))
	no(t, api.ErrNone)(work.Del(b.s, root, k[2]))
	no(t, api.ErrNode)(work.Del(b.s, root, k[5]))
	no(t, api.ErrNone)(work.Del(b.s, root, "~"))
	no(t, api.ErrNode)(work.Put(b.s, root, k[0], "1"))
	no(t, api.ErrNode)(work.Do(b.s, root, nil))
	noEntries(t, api.ErrNode)(work.Scan(b.s, root, k[0], k[1], 1))
	if l, e := work.Status(b.s, root, root); len(l) != 0 || e != api.OK {
		t.Error(l, e)
	}
	noChanges(t, api.ErrNode)(work.Status(b.s, root, 0))
	// Another Last than is told.
	root = b.crafts(api.Node{Level: 1, Kids: []api.Kid{{Last: k[0], Id: one.Id}, two}}).Id
	no(t, api.ErrNode)(work.Del(b.s, root, k[0]))
	no(t, api.ErrNone)(work.Del(b.s, root, k[1]))
	noEntries(t, api.ErrNode)(work.Scan(b.s, root, "", "", 0))
	// A node under itself.
	self := uint64(len(b.texts)) + 1
	if got := b.crafts(api.Node{Level: 1, Kids: []api.Kid{{Last: k[1], Id: self}}}); got.Id != self {
		t.Fatal(got)
	}
	no(t, api.ErrNode)(work.Del(b.s, self, k[0]))
	no(t, api.ErrNone)(work.Del(b.s, self, k[2]))
	no(t, api.ErrNode)(work.Put(b.s, self, k[0], "1"))
	noEntries(t, api.ErrNode)(work.Scan(b.s, self, "", "", 0))
	noChanges(t, api.ErrNode)(work.Status(b.s, self, 0))
	b.all()
}

// P18.1, P18.2: a leaf that a tree has twice: Scan tells what Range tells, and there is no map to work on.
func TestP18Twice(t *testing.T) {
	b := wide(t)
	k := plain(6)
	all := of(k[0]+"=1", k[1]+"=2", k[3]+"=3", k[4]+"=4")
	one, two := b.crafts(api.Node{Entries: all[:2]}), b.crafts(api.Node{Entries: all[2:]})
	left, right := b.crafts(api.Node{Level: 1, Kids: []api.Kid{one}}), b.crafts(api.Node{Level: 1, Kids: []api.Kid{one, two}})
	root := b.crafts(api.Node{Level: 2, Kids: []api.Kid{left, right}}).Id
	l := append(slices.Clone(all[:2]), all...)
	for most := range 8 {
		b.scans(root, "", "", most, within(l, "", "", most))
		b.scans(root, k[1], k[4], most, within(l, k[1], k[4], most))
		b.scans(root, k[0]+"0", k[3], most, within(l, k[0]+"0", k[3], most))
	}
	no(t, api.ErrNode)(work.Del(b.s, root, k[0]))
	no(t, api.ErrNone)(work.Del(b.s, root, k[2]))
	no(t, api.ErrNode)(work.Do(b.s, root, nil))
	no(t, api.ErrNode)(work.Do(b.s, root, fills(401)))
	b.all()
}

// P18.1: what is done to a tree of another shape has the one that the map has.
func TestP18_1Shape(t *testing.T) {
	b := wide(t)
	k := plain(6)
	all := of(k[0]+"=1", k[1]+"=2", k[3]+"=3", k[4]+"=4")
	one, two := b.crafts(api.Node{Entries: all[:2]}), b.crafts(api.Node{Entries: all[2:]})
	root := b.crafts(api.Node{Level: 1, Kids: []api.Kid{one, two}}).Id
	b.maps[root] = all
	want := b.does(root)
	if want == root || b.sets(root, k[0], "1") != want || b.takes(b.sets(root, k[2], ""), k[2]) != want {
		t.Error(want)
	}
	b.takes(root, k[4])
	b.differs(root, want)
	b.all()
}
