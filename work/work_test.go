package work_test

import (
	"math/rand"
	"slices"
	"strings"
	"testing"

	"apograph/api"
	"apograph/work"
)

func TestP18Example(t *testing.T) {
	b := wide(t)
	for _, root := range []uint64{0, b.builds(of("a=1", "d=2", "f=3")), b.builds(many(300))} {
		for _, key := range []string{"none", "0", "~", "d\x00", "k0001"} {
			if id, e := work.Del(b.s, root, key); id != 0 || e != api.ErrNone {
				t.Error(id, e)
			}
		}
	}
}

// P18.1: Put and Del, on the empty map, and on one of a single key.
func TestP18_1One(t *testing.T) {
	b := wide(t)
	b.takes(0, "a")
	one := b.sets(0, "a", "1")
	if one != 1 {
		t.Error(one)
	}
	if b.sets(one, "a", "1") != one || b.sets(0, "a", "1") != one {
		t.Error("the value that it has")
	}
	b.takes(one, "b")
	b.takes(one, "")
	if b.takes(one, "a") != 0 {
		t.Error("the only key")
	}
	other := b.sets(one, "a", "2")
	if other == one || b.sets(other, "a", "1") != one || b.takes(other, "a") != 0 {
		t.Error(other)
	}
	none := b.sets(one, "a", "")
	if none == one || none == 0 || b.takes(none, "a") != 0 {
		t.Error("no value is a value", none)
	}
	b.all()
}

// P18.1: keys and values of all lengths.
func TestP18_1Lengths(t *testing.T) {
	long := strings.Repeat("x", 1000)
	for _, root := range [][]api.Entry{nil, of("a=1"), many(50)} {
		b := wide(t)
		at := b.builds(root)
		for _, n := range []int{0, 1, 2, 39, 40, 41, 42, 255, 256, 1000} {
			id := b.sets(at, long[:n], "v")
			if (id == 0) != (n == 0 || n > 40) {
				t.Fatal(n, id)
			}
			b.takes(at, long[:n])
			if id != 0 && b.takes(id, long[:n]) != at {
				t.Fatal(n)
			}
			b.does(at, gone(long[:n]))
		}
		for _, n := range []int{0, 1, 127, 128, 199, 200, 201, 202, 255, 256, 1000} {
			id := b.sets(at, "key", long[:n])
			if (id == 0) != (n > 200) {
				t.Fatal(n, id)
			}
			if id != 0 && b.takes(id, "key") != at {
				t.Fatal(n)
			}
			// The value of one that is Gone is nothing.
			if x := (api.Edit{Key: "key", Val: long[:n], Gone: true}); b.does(at, x) != at {
				t.Fatal(n)
			}
		}
		b.sets(at, "", long)
		b.sets(at, long, long)
		b.sets(at, long[:40], long[:200])
		b.all()
	}
}

// P18.1: any bytes are keys and values.
func TestP18_1Bytes(t *testing.T) {
	b := wide(t)
	root := uint64(0)
	for i := range 256 {
		root = b.sets(root, string([]byte{byte(i)}), string([]byte{byte(255 - i), 0}))
	}
	for i := range 256 {
		b.takes(root, string([]byte{byte(i), 0}))
		b.takes(root, string([]byte{byte(i)}))
	}
	b.all()
}

// P18.1: each key of a map goes, and comes again; and whatever stands ahead of it, between, and behind.
func TestP18_1Each(t *testing.T) {
	for _, n := range []int{1, 2, 3, 10, 100} {
		b := wide(t)
		l := many(n)
		root := b.builds(l)
		for _, x := range l {
			less := b.takes(root, x.Key)
			b.takes(less, x.Key)
			if b.sets(less, x.Key, x.Val) != root || b.sets(root, x.Key, x.Val) != root {
				t.Fatal("there and back", x)
			}
			b.sets(root, x.Key, "new")
			for _, key := range []string{x.Key[:4], x.Key + "\x00", x.Key + "0", x.Key[:4] + "/"} {
				b.takes(root, key)
				more := b.sets(root, key, x.Val)
				if more == root || b.takes(more, key) != root {
					t.Fatal("there and back", key)
				}
			}
		}
		b.all()
	}
}

// P18.1: the first key and the last one, all down to the empty map, from either end.
func TestP18_1AllGo(t *testing.T) {
	b := wide(t)
	root := b.builds(many(60))
	for _, first := range []bool{true, false} {
		at := root
		for i := range 60 {
			l := b.maps[at]
			if first {
				at = b.takes(at, l[0].Key)
			} else {
				at = b.takes(at, l[len(l)-1].Key)
			}
			if (at == 0) != (i == 59) {
				t.Fatal(i, at)
			}
		}
		b.takes(at, "k0000")
	}
	b.all()
}

// P18.1: Do of no edit, of one, of several of one key, of ones that aren't there, in any order.
func TestP18_1Edits(t *testing.T) {
	l := many(30)
	k, no := l[10].Key, "k0031"
	for _, x := range [][]api.Edit{
		nil,
		{},
		{put(k, "1")},
		{put(k, l[10].Val)},
		{put(k, "1"), put(k, "2")},
		{put(k, "2"), put(k, "1")},
		{put(k, "1"), gone(k)},
		{gone(k), put(k, "1")},
		{gone(k), gone(k)},
		{gone(k), put(k, l[10].Val)},
		{put(k, "1"), put(k, l[10].Val)},
		{put(no, "1"), put(no, "2")},
		{put(no, "1"), gone(no)},
		{gone(no), put(no, "1")},
		{gone(no)},
		{gone(no), gone("0"), gone("~"), gone(no)},
		{put(no, "1"), gone(no), put(no, "")},
		{put(no, "1"), put(k, "2"), gone(no), gone(k), put(no, "3"), put(k, "4"), put(no, "5")},
		{put("z", "1"), put("a", "2"), gone(k), put("k", "3"), put("z", "4")},
		{gone(l[29].Key), gone(l[0].Key), gone(l[15].Key)},
	} {
		b := wide(t)
		root := b.builds(l)
		for _, at := range []uint64{root, 0, b.builds(of(k + "=1"))} {
			id := b.does(at, x...)
			b.does(id, x...)
			b.differs(at, id)
		}
		if len(x) == 0 && (b.does(root, x...) != root || b.does(0, x...) != 0) {
			t.Error("no edit")
		}
		b.all()
	}
}

// P18.1: one map has one root, whether it comes about at once or by one key at a time, in whatever order.
func TestP18_1Orders(t *testing.T) {
	r := rand.New(rand.NewSource(18))
	b := wide(t)
	l := many(150)
	root := b.builds(l)
	for range 3 {
		var some []api.Edit
		at := uint64(0)
		for _, i := range r.Perm(len(l)) {
			some = append(some, put(l[i].Key, l[i].Val))
			at = b.sets(at, l[i].Key, l[i].Val)
		}
		if at != root || b.does(0, some...) != root || b.does(root, some...) != root {
			t.Fatal(at, root)
		}
		for _, i := range r.Perm(len(l)) {
			some[i] = gone(l[i].Key)
			at = b.takes(at, l[i].Key)
		}
		if at != 0 || b.does(root, some...) != 0 || b.does(0, some...) != 0 {
			t.Fatal(at)
		}
	}
	b.all()
}

// P18.1: wrong edits, in order, whatever else they are, and nothing is put.
func TestP18_1Wrong(t *testing.T) {
	long := strings.Repeat("x", 201)
	ok, key, val, both := put("a", "1"), put(long[:41], ""), put("v", long), put("", long)
	gkey, gval, gboth := gone(""), api.Edit{Key: "v", Val: long, Gone: true}, api.Edit{Key: long[:41], Val: long, Gone: true}
	b := wide(t)
	roots := []uint64{0, b.builds(many(50)), b.builds(many(400)), b.builds(many(401))}
	all := []api.Edit{ok, key, val, both, gkey, gval, gboth}
	for _, x := range all {
		for _, y := range all {
			for _, z := range all {
				for _, root := range roots {
					if wrong([]api.Edit{x, y, z}) != api.OK || root != roots[3] {
						b.does(root, x, y, z)
					}
				}
			}
		}
		if !x.Gone {
			for _, root := range roots[:3] {
				b.sets(root, x.Key, x.Val)
			}
		}
		for _, root := range roots {
			b.takes(root, x.Key)
		}
	}
}

// fills is Puts of n keys.
func fills(n int) []api.Edit {
	var l []api.Edit
	for _, x := range many(n) {
		l = append(l, put(x.Key, x.Val))
	}
	return l
}

// P18.1: maps about 400 keys, at once.
func TestP18_1ManyAtOnce(t *testing.T) {
	for _, n := range []int{1, 399, 400, 401, 402, 1000} {
		b := wide(t)
		id, e := work.Do(b.s, 0, fills(n))
		if want := b.meant(many(n)); n <= 400 && (id != want || e != api.OK) {
			t.Fatal(n, id, e)
		} else if n > 400 && (id != 0 || e != api.ErrMany) {
			t.Fatal(n, id, e)
		}
		// What was put is put still.
		b.all()
		l := fills(n)
		slices.Reverse(l)
		b.does(0, l...)
		// As many edits as they are, of one key; and ones that go again.
		b.does(0, slices.Repeat([]api.Edit{put("a", "1")}, n)...)
		for _, x := range many(n)[min(n, 400):] {
			l = append(l, gone(x.Key))
		}
		if b.does(0, l...) != b.meant(many(min(n, 400))) {
			t.Fatal(n)
		}
		b.does(0, append(l, put("more", "1"))...)
		b.does(0, append(l, put("more", "1"), gone("more"))...)
		b.does(0, append(l, put("more", "1"), gone("k0000"))...)
		b.all()
	}
}

// P18.1: maps about 400 keys, one Put at a time.
func TestP18_1ManyByPut(t *testing.T) {
	b := wide(t)
	root := uint64(0)
	for i, x := range many(400) {
		root = b.sets(root, x.Key, x.Val)
		if root == 0 {
			t.Fatal(i)
		}
	}
	had := len(b.texts)
	if b.sets(root, "more", "1") != 0 || len(b.texts) == had {
		t.Error("one too many, whose nodes are put")
	}
	had = len(b.texts)
	if b.sets(root, "more", "1") != 0 || len(b.texts) != had {
		t.Error("it is there already")
	}
	for _, key := range []string{"0", "k0001", "k0600\x00", "~", strings.Repeat("~", 40)} {
		if b.sets(root, key, "1") != 0 || b.does(root, put(key, "")) != 0 {
			t.Error(key)
		}
		if b.does(root, put(key, "1"), gone(key)) != root || b.does(root, put(key, "1"), gone("k0300")) == 0 {
			t.Error(key)
		}
	}
	// Those that are there may change and go, and another one comes.
	for i, x := range many(400) {
		if i%13 > 0 && i < 399 {
			continue
		}
		if b.sets(root, x.Key, "new") == 0 || b.sets(root, x.Key, x.Val) != root {
			t.Error(x)
		}
		less := b.takes(root, x.Key)
		if less == 0 || b.sets(less, "more", "1") == 0 || b.sets(less, x.Key, x.Val) != root {
			t.Error(x)
		}
	}
	b.all()
}

// P18.1: maps that have too many keys already, as the layers below may build them.
func TestP18_1TooMany(t *testing.T) {
	for _, n := range []int{400, 401, 402, 403, 900} {
		b := wide(t)
		root := b.builds(many(n))
		if id := b.does(root); (id == root) != (n == 400) {
			t.Error(n, id)
		}
		b.does(root, gone("none"))
		b.sets(root, "k0000", "0")
		b.sets(root, "k0000", "new")
		b.sets(root, "more", "1")
		if id := b.takes(root, "k0003"); (id != 0) != (n <= 401) {
			t.Error(n, id)
		}
		if id := b.does(root, gone("k0003"), gone("k0006")); (id != 0) != (n <= 402) {
			t.Error(n, id)
		}
		b.takes(root, "none")
		b.takes(root, "")
		var l []api.Edit
		for _, x := range many(n) {
			l = append(l, gone(x.Key))
		}
		if b.does(root, l...) != 0 || b.does(root, l[400:]...) != b.meant(many(400)) || b.does(root, append(l, fills(7)...)...) != b.meant(many(7)) {
			t.Error(n)
		}
		b.differs(root, 0)
		b.scans(root, "", "", 401, many(n)[:min(n, 401)])
		b.all()
	}
}

// P2, P3: what is handed in stays as it is, and may be changed later; what lies behind its length is nothing.
func TestP18_1Memory(t *testing.T) {
	b := wide(t)
	l := []api.Edit{put("a", "1"), put("b", "2"), put("", ""), gone("a")}
	was := slices.Clone(l)
	root := b.does(0, l[:2]...)
	if id, e := work.Do(b.s, 0, l[:2]); id != root || e != api.OK || !slices.Equal(l, was) {
		t.Error(id, e, l)
	}
	if id, e := work.Do(b.s, root, l[:0]); id != root || e != api.OK || !slices.Equal(l, was) {
		t.Error(id, e, l)
	}
	clear(l)
	b.all()
	if id, e := work.Do(b.s, root, nil); id != root || e != api.OK {
		t.Error(id, e)
	}
}
