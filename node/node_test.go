package node_test

import (
	"hash/fnv"
	"math"
	"math/rand"
	"strconv"
	"strings"
	"testing"

	"apograph/api"
	"apograph/node"
)

// ends tells by the library's FNV-1a whether a key Ends.
func ends(level int, key string) bool {
	h := fnv.New64a()
	h.Write([]byte{byte(level)})
	h.Write([]byte(key))
	return h.Sum64()/1024%4 == 0
}

// pick is n keys of 8 bytes, rising, all of which End at this level, or none.
func pick(level, n int, end bool) []string {
	var l []string
	for i := 10_000_000; len(l) < n; i++ {
		if k := strconv.Itoa(i); ends(level, k) == end {
			l = append(l, k)
		}
	}
	return l
}

func entries(keys ...string) []api.Entry {
	var l []api.Entry
	for i, k := range keys {
		l = append(l, api.Entry{Key: k, Val: strconv.Itoa(i)})
	}
	return l
}

func kids(lasts ...string) []api.Kid {
	var l []api.Kid
	for i, k := range lasts {
		l = append(l, api.Kid{Last: k, Id: uint64(i) + 1})
	}
	return l
}

// of is a node of a level with these keys: of level 0 with entries, of others with kids.
func of(level int, keys ...string) api.Node {
	if level == 0 {
		return api.Node{Entries: entries(keys...)}
	}
	return api.Node{Level: level, Kids: kids(keys...)}
}

// right asks for what Right and Put say of a node: Put has no bytes where Right has an error.
func right(t *testing.T, n api.Node, want api.Errno) {
	t.Helper()
	if e := node.Right(n); e != want {
		t.Errorf("Right of %#v: %d, not %d", n, e, want)
	}
	b, e := node.Put(n)
	if e != want || (len(b) > 0) != (want == api.OK) {
		t.Errorf("Put of %#v: %d bytes, %d, not %d", n, len(b), e, want)
	}
}

// odd are levels that no node has.
func odd() []int {
	return []int{-1, 21, -2, 22, -20, 100, 255, 256, 257, 276, -256, -236, 1 << 32, 1<<32 + 1, -1 << 32, math.MaxInt, math.MaxInt - 255, math.MinInt, math.MinInt + 1}
}

func TestP9_1Key(t *testing.T) {
	for size := range 300 {
		want := api.ErrKey
		if 1 <= size && size <= 40 {
			want = api.OK
		}
		for _, c := range []string{"k", "\x00", "\xff", " "} {
			if e := node.Key(strings.Repeat(c, size)); e != want {
				t.Errorf("%d bytes of %q: %d", size, c, e)
			}
		}
	}
	if e := node.Key(strings.Repeat("k", 1<<20)); e != api.ErrKey {
		t.Error("1,048,576 bytes", e)
	}
}

func TestP9_1Val(t *testing.T) {
	for size := range 500 {
		want := api.OK
		if size > 200 {
			want = api.ErrValue
		}
		for _, c := range []string{"v", "\x00", "\xff", " "} {
			if e := node.Val(strings.Repeat(c, size)); e != want {
				t.Errorf("%d bytes of %q: %d", size, c, e)
			}
		}
	}
	if e := node.Val(strings.Repeat("v", 1<<20)); e != api.ErrValue {
		t.Error("1,048,576 bytes", e)
	}
}

// P9.1: bytes are counted, not runes.
func TestP9_1Runes(t *testing.T) {
	for n, want := range map[int]api.Errno{19: api.OK, 20: api.OK, 21: api.ErrKey, 40: api.ErrKey} {
		if e := node.Key(strings.Repeat("é", n)); e != want {
			t.Error("a key", n, e)
		}
	}
	for n, want := range map[int]api.Errno{99: api.OK, 100: api.OK, 101: api.ErrValue, 200: api.ErrValue} {
		if e := node.Val(strings.Repeat("é", n)); e != want {
			t.Error("a value", n, e)
		}
	}
}

// The chapter's example.
func TestP9Example(t *testing.T) {
	right(t, api.Node{}, api.ErrNode)
	right(t, api.Node{Entries: []api.Entry{}, Kids: []api.Kid{}}, api.ErrNode)
}

// P9.2: which levels there are, and what nodes have there.
func TestP9_2Level(t *testing.T) {
	for level := range 21 {
		leaf, inner := api.OK, api.ErrNode
		if level > 0 {
			leaf, inner = inner, leaf
		}
		right(t, api.Node{Level: level}, api.ErrNode)
		right(t, api.Node{Level: level, Entries: entries("b")}, leaf)
		right(t, api.Node{Level: level, Kids: kids("b")}, inner)
		right(t, api.Node{Level: level, Entries: entries("b"), Kids: []api.Kid{}}, leaf)
		right(t, api.Node{Level: level, Entries: []api.Entry{}, Kids: kids("b")}, inner)
		right(t, api.Node{Level: level, Entries: entries("b"), Kids: kids("b")}, api.ErrNode)
		right(t, api.Node{Level: level, Entries: entries("b"), Kids: kids("c")}, api.ErrNode)
	}
	for _, level := range odd() {
		right(t, api.Node{Level: level}, api.ErrNode)
		right(t, api.Node{Level: level, Entries: entries("b")}, api.ErrNode)
		right(t, api.Node{Level: level, Kids: kids("b")}, api.ErrNode)
		right(t, api.Node{Level: level, Entries: entries("b"), Kids: kids("c")}, api.ErrNode)
	}
}

// P9.2: keys that rise, are the same, or fall, at the beginning, amid and at the end.
func TestP9_2Rise(t *testing.T) {
	for level := range 21 {
		l := pick(level, 5, false)
		right(t, of(level, l...), api.OK)
		for i := range l[1:] {
			swapped := append([]string(nil), l...)
			swapped[i], swapped[i+1] = l[i+1], l[i]
			right(t, of(level, swapped...), api.ErrNode)
			same := append([]string(nil), l...)
			same[i+1] = l[i]
			right(t, of(level, same...), api.ErrNode)
		}
	}
}

// P9.2: keys are held against each other byte by byte, so that one that another begins with is below it.
func TestP9_2RiseBytes(t *testing.T) {
	pairs := [][2]string{}
	for a := range 256 {
		one := string([]byte{byte(a)})
		pairs = append(pairs, [2]string{one, one + "\x00"}, [2]string{one, one + "\xff"}, [2]string{one, one + one})
		if a < 255 {
			pairs = append(pairs, [2]string{one, string([]byte{byte(a) + 1})}, [2]string{one + "zz", string([]byte{byte(a) + 1})})
		}
	}
	pairs = append(pairs, [2]string{"Z", "a"}, [2]string{"10", "9"}, [2]string{"z", "é"}, [2]string{strings.Repeat("k", 39), strings.Repeat("k", 40)})
	for _, p := range pairs {
		for level := range 21 {
			want := api.OK
			if level < 20 && ends(level, p[0]) {
				want = api.ErrNode
			}
			right(t, of(level, p[0], p[1]), want)
			right(t, of(level, p[1], p[0]), api.ErrNode)
			right(t, of(level, p[0], p[0]), api.ErrNode)
		}
	}
}

// P9.2: a key that Ends may stand last alone; at level 20 anywhere.
func TestP9_2Ends(t *testing.T) {
	for level := range 21 {
		l := pick(level, 6, false)
		for at := range l {
			some := append([]string(nil), l...)
			for n := 0; !ends(level, some[at]); n++ {
				some[at] = l[at] + strconv.Itoa(n)
			}
			want := api.ErrNode
			if at == len(l)-1 || level == 20 {
				want = api.OK
			}
			right(t, of(level, some...), want)
			right(t, of(level, some[:at+1]...), api.OK)
		}
		all := pick(level, 6, true)
		right(t, of(level, all[:1]...), api.OK)
		want := api.ErrNode
		if level == 20 {
			want = api.OK
		}
		right(t, of(level, all...), want)
		right(t, of(level, all[:2]...), want)
	}
}

// P9.2: it is the node's own level at which a key Ends, not another one.
func TestP9_2EndsAtItsLevel(t *testing.T) {
	for level := range 20 {
		for other := range 20 {
			k := ""
			for n := 0; k == ""; n++ {
				if s := strconv.Itoa(n); ends(other, s) && !ends(level, s) {
					k = s
				}
				if other == level {
					break
				}
			}
			if k != "" {
				right(t, of(level, k, k+"~"), api.OK)
				right(t, of(other, k, k+"~"), api.ErrNode)
			}
		}
	}
}

func TestP9_2Id(t *testing.T) {
	for level := 1; level <= 20; level++ {
		l := kids(pick(level, 4, false)...)
		for at := range l {
			for _, id := range []uint64{0, 1, 2, 1 << 32, 1 << 63, math.MaxUint64} {
				some := append([]api.Kid(nil), l...)
				some[at].Id = id
				want := api.OK
				if id == 0 {
					want = api.ErrNode
				}
				right(t, api.Node{Level: level, Kids: some}, want)
			}
		}
	}
	// Of Ids nothing else is asked: they may be the same, and fall.
	l := pick(1, 3, false)
	right(t, api.Node{Level: 1, Kids: []api.Kid{{Last: l[0], Id: 7}, {Last: l[1], Id: 7}, {Last: l[2], Id: 3}}}, api.OK)
}

// P9.2: texts of the greatest sizes, and of one byte more.
func TestP9_2Texts(t *testing.T) {
	k := func(n int) string { return strings.Repeat("k", n) }
	leaf := func(key, val string) api.Node { return api.Node{Entries: []api.Entry{{Key: key, Val: val}}} }
	right(t, leaf(k(1), ""), api.OK)
	right(t, leaf(k(40), k(200)), api.OK)
	right(t, leaf("", ""), api.ErrKey)
	right(t, leaf(k(41), ""), api.ErrKey)
	right(t, leaf(k(40), k(201)), api.ErrValue)
	for _, level := range []int{1, 2, 19, 20} {
		right(t, of(level, k(1)), api.OK)
		right(t, of(level, k(40)), api.OK)
		right(t, of(level, ""), api.ErrKey)
		right(t, of(level, k(41)), api.ErrKey)
	}
}

// P9.2: of several errors the first is told, entry by entry, ahead of whatever is wrong with the node.
func TestP9_2WhichError(t *testing.T) {
	long := strings.Repeat("x", 201)
	ok, key, val, both := api.Entry{Key: "b"}, api.Entry{Key: ""}, api.Entry{Key: "b", Val: long}, api.Entry{Key: long, Val: long}
	kid, last := api.Kid{Last: "b", Id: 1}, api.Kid{Last: long, Id: 1}
	for _, c := range []struct {
		entries []api.Entry
		kids    []api.Kid
		want    api.Errno
	}{
		{[]api.Entry{both}, nil, api.ErrKey},
		{[]api.Entry{val, key}, nil, api.ErrValue},
		{[]api.Entry{key, val}, nil, api.ErrKey},
		{[]api.Entry{ok, val, key}, nil, api.ErrValue},
		{[]api.Entry{ok, ok, both}, nil, api.ErrKey},
		{[]api.Entry{ok, ok, val}, nil, api.ErrValue},
		{[]api.Entry{ok, ok}, []api.Kid{last}, api.ErrKey},
		{[]api.Entry{ok}, []api.Kid{kid, kid, last}, api.ErrKey},
		{[]api.Entry{val}, []api.Kid{last}, api.ErrValue},
		{[]api.Entry{key}, []api.Kid{kid}, api.ErrKey},
		{[]api.Entry{val}, []api.Kid{kid}, api.ErrValue},
		{nil, []api.Kid{kid, last}, api.ErrKey},
		{nil, []api.Kid{{Last: ""}}, api.ErrKey},
		{nil, []api.Kid{{Last: "b"}, last}, api.ErrKey},
		{nil, []api.Kid{{Last: "b"}}, api.ErrNode},
		{[]api.Entry{ok, ok}, nil, api.ErrNode},
		{[]api.Entry{ok}, []api.Kid{kid}, api.ErrNode},
	} {
		for _, level := range append(odd(), 0, 1, 2, 19, 20) {
			right(t, api.Node{Level: level, Entries: c.entries, Kids: c.kids}, c.want)
		}
	}
}

// meant is Right, said key by key.
func meant(n api.Node) api.Errno {
	var keys []string
	for _, x := range n.Entries {
		if x.Key == "" || len(x.Key) > 40 {
			return api.ErrKey
		}
		if len(x.Val) > 200 {
			return api.ErrValue
		}
		keys = append(keys, x.Key)
	}
	zero := false
	for _, k := range n.Kids {
		if k.Last == "" || len(k.Last) > 40 {
			return api.ErrKey
		}
		zero = zero || k.Id == 0
		keys = append(keys, k.Last)
	}
	leaf := n.Level == 0 && len(n.Entries) > 0 && len(n.Kids) == 0
	inner := n.Level > 0 && n.Level < 21 && len(n.Entries) == 0 && len(n.Kids) > 0
	if !leaf && !inner || zero {
		return api.ErrNode
	}
	for i, k := range keys {
		if i == len(keys)-1 {
			break
		}
		if strings.Compare(k, keys[i+1]) != -1 || n.Level != 20 && ends(n.Level, k) {
			return api.ErrNode
		}
	}
	return api.OK
}

// chance is a node that is often right, and often nearly so.
func chance(r *rand.Rand) api.Node {
	n := api.Node{Level: r.Intn(23) - 1}
	if r.Intn(2) == 0 {
		n.Level = 0
	}
	key := ""
	for range r.Intn(5) {
		if r.Intn(12) > 0 {
			key += string([]byte{byte(r.Intn(256))})
		} else {
			key = strings.Repeat("z", r.Intn(43))
		}
		if n.Level == 0 != (r.Intn(60) == 0) {
			val := r.Intn(20)
			if r.Intn(20) == 0 {
				val = 199 + r.Intn(4)
			}
			n.Entries = append(n.Entries, api.Entry{Key: key, Val: strings.Repeat("v", val)})
		} else {
			n.Kids = append(n.Kids, api.Kid{Last: key, Id: r.Uint64() >> r.Intn(65)})
		}
	}
	return n
}

func TestP9_2Chance(t *testing.T) {
	r := rand.New(rand.NewSource(9))
	seen := map[api.Errno]int{}
	for range 100_000 {
		n := chance(r)
		want := meant(n)
		seen[want]++
		right(t, n, want)
	}
	for _, e := range []api.Errno{api.OK, api.ErrNode, api.ErrKey, api.ErrValue} {
		if seen[e] < 200 {
			t.Errorf("too few nodes of %d: %d", e, seen[e])
		}
	}
}

func TestP9_2Last(t *testing.T) {
	for _, c := range []struct {
		n    api.Node
		want string
	}{
		{api.Node{}, ""},
		{api.Node{Level: 1}, ""},
		{api.Node{Level: math.MinInt, Entries: []api.Entry{}, Kids: []api.Kid{}}, ""},
		{of(0, "a"), "a"},
		{of(0, "a", "b", "c"), "c"},
		{of(1, "a"), "a"},
		{of(20, "a", "b", "c"), "c"},
		// Nodes that aren't right have a last key all the same, if they have any.
		{of(0, "c", "b"), "b"},
		{of(0, "c", ""), ""},
		{of(21, "c", "b"), "b"},
		{of(-1, "c", strings.Repeat("k", 41)), strings.Repeat("k", 41)},
		{api.Node{Level: 1, Entries: entries("a", "b")}, "b"},
		{api.Node{Level: 0, Kids: kids("a", "b")}, "b"},
		{api.Node{Level: 0, Entries: entries("c", "d"), Kids: kids("a", "b")}, "b"},
		{api.Node{Level: 1, Entries: entries("c", "d"), Kids: kids("a", "b")}, "b"},
	} {
		if k := node.Last(c.n); k != c.want {
			t.Errorf("Last of %#v: %q", c.n, k)
		}
	}
}

// P2: what lies behind a list's length is nothing to a node.
func TestBehindTheLength(t *testing.T) {
	x := []api.Entry{{Key: "b", Val: "1"}, {Key: ""}}
	k := []api.Kid{{Last: "b", Id: 5}, {Last: ""}}
	right(t, api.Node{Entries: x[:1]}, api.OK)
	right(t, api.Node{Entries: x[:1], Kids: k[:0]}, api.OK)
	right(t, api.Node{Level: 3, Kids: k[:1]}, api.OK)
	right(t, api.Node{Level: 3, Entries: x[:0], Kids: k[:1]}, api.OK)
	right(t, api.Node{Entries: x[:0]}, api.ErrNode)
	if s := node.Last(api.Node{Entries: x[:1], Kids: k[:0]}); s != "b" {
		t.Errorf("%q", s)
	}
	if x[0] != (api.Entry{Key: "b", Val: "1"}) || x[1] != (api.Entry{}) || k[0] != (api.Kid{Last: "b", Id: 5}) || k[1] != (api.Kid{}) {
		t.Error("changed", x, k)
	}
}
