package conflict_test

import (
	"fmt"
	"math/rand"
	"slices"
	"strings"
	"testing"

	"apograph/api"
	"apograph/conflict"
)

func has(val string) api.Side {
	return api.Side{Has: true, Val: val}
}

// none is a side without a value.
var none = api.Side{}

// clash is one of a key, of each side "=1" (a value), "" (none) or "1" (a Val without Has, which may not be).
func clash(key, base, ours, theirs string) api.Clash {
	side := func(w string) api.Side {
		v, is := strings.CutPrefix(w, "=")
		return api.Side{Has: is, Val: v}
	}
	return api.Clash{Key: key, Base: side(base), Ours: side(ours), Theirs: side(theirs)}
}

// fair is so many clashes of which Right is OK, of all kinds.
func fair(n int) []api.Clash {
	kinds := [][3]string{{"=1", "=2", "=3"}, {"", "=2", "=3"}, {"=1", "", "=3"}, {"=1", "=2", ""}, {"=", "=2", ""}, {"", "=", "=3"}}
	var l []api.Clash
	for i := range n {
		k := kinds[i%len(kinds)]
		l = append(l, clash(fmt.Sprintf("k%05d", i), k[0], k[1], k[2]))
	}
	return l
}

// of is clashes with these keys, each of them a clash.
func of(keys ...string) []api.Clash {
	var l []api.Clash
	for i, k := range keys {
		l = append(l, clash(k, "", fmt.Sprint("=", i), "="))
	}
	return l
}

// meant is what Right must tell: of all that is wrong what comes first, by clash, and in one clash in the order in which the chapter names it.
func meant(l []api.Clash) api.Errno {
	first, told := 1<<62, api.OK
	wrong := func(at, rank int, is bool, e api.Errno) {
		if is && at*3+rank < first {
			first, told = at*3+rank, e
		}
	}
	for i, c := range l {
		all := map[api.Side]int{}
		for _, x := range []api.Side{c.Theirs, c.Base, c.Ours} {
			all[x]++
			wrong(i, 1, len(x.Val) > 200, api.ErrValue)
			wrong(i, 1, len(x.Val) > 0 && !x.Has, api.ErrValue)
		}
		wrong(i, 2, len(all) < 3, api.ErrConflict)
		wrong(i, 2, i > 0 && strings.Compare(c.Key, l[max(i, 1)-1].Key) < 1, api.ErrConflict)
		wrong(i, 0, c.Key == "" || len(c.Key) > 40, api.ErrKey)
	}
	return told
}

// right asks Right for this, and for a list that stays as it is.
func right(t *testing.T, l []api.Clash, want api.Errno) {
	t.Helper()
	was := slices.Clone(l)
	if e := conflict.Right(l); e != want {
		t.Fatalf("Right(%v): %d, not %d", was, e, want)
	}
	if !slices.Equal(l, was) {
		t.Fatalf("changed: %v, not %v", l, was)
	}
	if e := meant(l); e != want {
		t.Fatalf("meant(%v): %d, not %d", was, e, want)
	}
}

func TestP13_1Right(t *testing.T) {
	right(t, nil, api.OK)
	right(t, []api.Clash{}, api.OK)
	right(t, fair(3)[:0], api.OK)
	for _, n := range []int{1, 2, 6, 50, 1000, 1001, 5000} {
		right(t, fair(n), api.OK)
	}
}

func TestP13_1RightKey(t *testing.T) {
	for size := range 100 {
		want := api.ErrKey
		if 1 <= size && size <= 40 {
			want = api.OK
		}
		for _, c := range []string{"k", "\x00", "\xff", " "} {
			right(t, []api.Clash{clash(strings.Repeat(c, size), "=1", "=2", "=3")}, want)
		}
	}
	for n, want := range map[int]api.Errno{20: api.OK, 21: api.ErrKey} {
		right(t, []api.Clash{clash(strings.Repeat("é", n), "=1", "=2", "=3")}, want)
	}
	right(t, []api.Clash{clash(strings.Repeat("k", 1<<20), "=1", "=2", "=3")}, api.ErrKey)
	for at := range 5 {
		for _, key := range []string{"", strings.Repeat("l", 41)} {
			l := fair(5)
			l[at].Key = key
			right(t, l, api.ErrKey)
		}
	}
}

// P13.1: each side with values of all sizes, and without one.
func TestP13_1RightVal(t *testing.T) {
	for place := range 3 {
		for _, size := range []int{0, 1, 127, 128, 199, 200, 201, 202, 255, 256, 400, 1 << 20} {
			for _, c := range []string{"v", "\x00", "\xff"} {
				for _, is := range []bool{true, false} {
					want := api.OK
					if size > 200 || !is && size > 0 {
						want = api.ErrValue
					}
					one := fair(1)[0]
					*sidesOf(&one)[place] = api.Side{Has: is, Val: strings.Repeat(c, size)}
					right(t, []api.Clash{one}, want)
					l := fair(5)
					one.Key = l[2].Key
					l[2] = one
					right(t, l, want)
				}
			}
		}
	}
}

// sidesOf is where the sides of a clash stand.
func sidesOf(c *api.Clash) [3]*api.Side {
	return [3]*api.Side{&c.Base, &c.Ours, &c.Theirs}
}

func TestP13_1RightRising(t *testing.T) {
	right(t, of("a", "b", "c"), api.OK)
	right(t, of("Z", "a", "a\x00", "aa", "b", "é", "\xff", "\xff\xff"), api.OK)
	right(t, of("10", "9"), api.OK)
	for _, keys := range []string{"b a", "a a", "a b a", "a b b", "a a b", "b a c", "a c b", "a b c c", "a b c b", "a Z", "9 10", "ab a", "\xff é", "a\x00 a"} {
		right(t, of(strings.Fields(keys)...), api.ErrConflict)
	}
	// The same clash twice over, and two of one key.
	right(t, append(of("a"), of("a")...), api.ErrConflict)
	right(t, []api.Clash{clash("a", "=1", "=2", "=3"), clash("a", "=4", "=5", "=6")}, api.ErrConflict)
	// Keys that fall somewhere in a long list.
	for _, at := range []int{1, 2, 500, 998, 999} {
		l := fair(1000)
		l[at].Key = l[at-1].Key
		right(t, l, api.ErrConflict)
		l = fair(1000)
		l[at].Key, l[at-1].Key = l[at-1].Key, l[at].Key
		right(t, l, api.ErrConflict)
	}
}

// P13.1: clashes that are none.
func TestP13_1RightNone(t *testing.T) {
	for _, s := range [][3]string{
		{"=1", "=2", "=2"}, {"=1", "", ""}, {"", "=2", "=2"}, {"=1", "=", "="}, // Ours is Theirs
		{"=1", "=1", "=2"}, {"", "", "=2"}, {"=1", "=1", ""}, {"=", "=", "=2"}, // Ours is Base
		{"=1", "=2", "=1"}, {"", "=2", ""}, {"=1", "", "=1"}, {"=", "=2", "="}, // Theirs is Base
		{"=1", "=1", "=1"}, {"", "", ""}, {"=", "=", "="},
	} {
		one := clash("k00001", s[0], s[1], s[2])
		right(t, []api.Clash{one}, api.ErrConflict)
		for at := range 5 {
			l := fair(5)
			one.Key = l[at].Key
			l[at] = one
			right(t, l, api.ErrConflict)
		}
	}
	right(t, []api.Clash{{}}, api.ErrKey)
	right(t, []api.Clash{{Key: "a"}}, api.ErrConflict)
	// An empty value is one, and bytes are held against each other.
	right(t, []api.Clash{clash("a", "", "=", "=x")}, api.OK)
	right(t, []api.Clash{clash("a", "=", "", "=x")}, api.OK)
	right(t, []api.Clash{clash("a", "=x", "=", "")}, api.OK)
	right(t, []api.Clash{clash("a", "=x", "=X", "=x\x00")}, api.OK)
}

// P13.1, P4: several faults in one clash and in several.
func TestP13_1RightFirst(t *testing.T) {
	long := strings.Repeat("v", 201)
	for _, x := range []struct {
		l    []api.Clash
		want api.Errno
	}{
		// In one.
		{[]api.Clash{clash("", "", "1", "=2")}, api.ErrKey},
		{[]api.Clash{clash("", "="+long, "=1", "=2")}, api.ErrKey},
		{[]api.Clash{clash("", "=1", "=1", "=1")}, api.ErrKey},
		{[]api.Clash{clash(long, "1", "1", "1")}, api.ErrKey},
		{[]api.Clash{clash("a", "", "1", "1")}, api.ErrValue},
		{[]api.Clash{clash("a", "1", "=2", "=2")}, api.ErrValue},
		{[]api.Clash{clash("a", "=2", "=2", "1")}, api.ErrValue},
		{[]api.Clash{clash("a", "="+long, "="+long, "="+long)}, api.ErrValue},
		{append(of("b"), clash("", "=1", "=2", "=3")), api.ErrKey},
		{append(of("b"), clash("", "1", "=1", "=1")), api.ErrKey},
		{append(of("b"), clash("a", "=1", "=2", "3")), api.ErrValue},
		{append(of("b"), clash("b", "=1", "="+long, "=1")), api.ErrValue},
		{append(of("b"), clash("b", "=1", "=1", "=1")), api.ErrConflict},
		// In several: the first clash's, whatever the others have.
		{[]api.Clash{clash("a", "=1", "=1", "=2"), clash("", "", "1", "2")}, api.ErrConflict},
		{[]api.Clash{clash("a", "=1", "=1", "=2"), clash("b", "1", "=1", "=2")}, api.ErrConflict},
		{[]api.Clash{clash("a", "1", "=1", "=2"), clash("", "=1", "=2", "=3")}, api.ErrValue},
		{[]api.Clash{clash("a", "1", "=1", "=2"), clash("a", "=1", "=1", "=3")}, api.ErrValue},
		{[]api.Clash{clash("", "=1", "=2", "=3"), clash("a", "1", "", "")}, api.ErrKey},
		{[]api.Clash{clash("", "=1", "=2", "=3"), clash("", "=1", "=2", "=3")}, api.ErrKey},
		{append(of("b", "a"), clash("", "=1", "=2", "=3")), api.ErrConflict},
		{append(of("b", "a"), clash("c", "1", "=2", "=3")), api.ErrConflict},
		{append(of("a", "b"), clash("c", "1", "=2", "=3"), clash("b", "=1", "=1", "=1")), api.ErrValue},
		{append(of("a", "b"), clash("b", "=1", "=2", "=3"), clash("c", "1", "=1", "=1")), api.ErrConflict},
	} {
		right(t, x.l, x.want)
	}
}

// some is clashes of all threes of sides, fair and not, with each of the keys.
func some(keys ...string) []api.Clash {
	var l []api.Clash
	all := []api.Side{none, {Val: "1"}, has(""), has("1"), has("2"), has("3"), has(strings.Repeat("v", 201))}
	for _, k := range keys {
		for _, b := range all {
			for _, o := range all {
				for _, th := range all {
					l = append(l, api.Clash{Key: k, Base: b, Ours: o, Theirs: th})
				}
			}
		}
	}
	return l
}

// P13.1 of all clashes of a few sides, alone, and of pairs of them.
func TestP13_1RightAll(t *testing.T) {
	one := some("", "a", strings.Repeat("k", 40), strings.Repeat("k", 41))
	for _, c := range one {
		right(t, []api.Clash{c}, meant([]api.Clash{c}))
	}
	r := rand.New(rand.NewSource(13))
	all, told := some("", "a", "b", "c"), map[api.Errno]int{}
	for range 300_000 {
		var l []api.Clash
		for range r.Intn(4) {
			l = append(l, all[r.Intn(len(all))])
		}
		want := meant(l)
		right(t, l, want)
		told[want]++
	}
	for _, e := range []api.Errno{api.OK, api.ErrKey, api.ErrValue, api.ErrConflict} {
		if told[e] < 1000 {
			t.Error("too few", e, told[e])
		}
	}
}

// P2: what lies behind a list's length isn't looked at.
func TestP13_1RightBehind(t *testing.T) {
	l := append(fair(3), api.Clash{}, clash("a", "1", "1", "1"))
	right(t, l[:3], api.OK)
	right(t, l[:0], api.OK)
	right(t, l[:4], api.ErrKey)
}

func TestP13_1Find(t *testing.T) {
	l := of("b", "d", "f")
	for key, want := range map[string]int{"b": 0, "d": 1, "f": 2, "a": -1, "c": -1, "e": -1, "g": -1, "": -1, "B": -1, "bb": -1, "b\x00": -1} {
		if at := conflict.Find(l, key); at != want {
			t.Errorf("Find of %q: %d, not %d", key, at, want)
		}
	}
	for _, none := range [][]api.Clash{nil, {}, l[:0]} {
		for _, key := range []string{"", "b", "x"} {
			if at := conflict.Find(none, key); at != -1 {
				t.Errorf("Find of %q in none: %d", key, at)
			}
		}
	}
	if at := conflict.Find(l[:2], "f"); at != -1 {
		t.Error("behind the length", at)
	}
	many := fair(2000)
	for i, c := range many {
		if at := conflict.Find(many, c.Key); at != i {
			t.Fatalf("Find of %q: %d, not %d", c.Key, at, i)
		}
		if at := conflict.Find(many, c.Key+"x"); at != -1 {
			t.Fatalf("Find of %qx: %d", c.Key, at)
		}
	}
}

// P13.1, P1: lists of which Right has an error.
func TestP13_1FindOdd(t *testing.T) {
	l := append(of("f", "b", "d", "b", ""), api.Clash{Key: strings.Repeat("k", 50)})
	for key, want := range map[string]int{"f": 0, "b": 1, "d": 2, "": 4, strings.Repeat("k", 50): 5, "c": -1, "k": -1} {
		if at := conflict.Find(l, key); at != want {
			t.Errorf("Find of %q: %d, not %d", key, at, want)
		}
	}
}

// leaves asks Without for these keys of l, in order, and for a list that stays as it is.
func leaves(t *testing.T, l []api.Clash, key string, places ...int) {
	t.Helper()
	was := slices.Clone(l)
	var want []api.Clash
	for _, at := range places {
		want = append(want, l[at])
	}
	got := conflict.Without(l, key)
	if !slices.Equal(got, want) {
		t.Fatalf("Without %q: %v, not %v", key, got, want)
	}
	clear(got[:cap(got)])
	if !slices.Equal(l, was) {
		t.Fatalf("Without %q changed or shares: %v, not %v", key, l, was)
	}
}

func TestP13_1Without(t *testing.T) {
	l := fair(5)
	leaves(t, l, "k00000", 1, 2, 3, 4)
	leaves(t, l, "k00002", 0, 1, 3, 4)
	leaves(t, l, "k00004", 0, 1, 2, 3)
	for _, key := range []string{"", "a", "k0000", "k000022", "k00005", "K00002", "z"} {
		leaves(t, l, key, 0, 1, 2, 3, 4)
	}
	leaves(t, l[:1], "k00000")
	leaves(t, l[:1], "k00001", 0)
	for _, none := range [][]api.Clash{nil, {}, l[:0]} {
		leaves(t, none, "k00000")
		leaves(t, none, "")
	}
	// Lists of which Right has an error: all others all the same.
	odd := append(of("f", "b", "d", "b", ""), clash("", "x", "x", "x"))
	leaves(t, odd, "b", 0, 2, 4, 5)
	leaves(t, odd, "", 0, 1, 2, 3)
	leaves(t, odd, "f", 1, 2, 3, 4, 5)
}

// P2: neither what is handed in later changes the answer, nor is there anything behind the list's length in it.
func TestP13_1WithoutMemory(t *testing.T) {
	l := fair(6)
	want := slices.Clone(l[:4])
	for _, key := range []string{"k00003", "none", "k00004"} {
		mine := slices.Clone(l)
		got := conflict.Without(mine[:4], key)
		other := conflict.Without(mine[:4], key)
		keep := slices.Clone(got)
		clear(mine)
		clear(other[:cap(other)])
		if !slices.Equal(got, keep) || slices.Contains(got[:cap(got)], l[4]) || slices.Contains(got[:cap(got)], l[5]) {
			t.Error(key, got)
		}
		_ = append(got, api.Clash{Key: "new"})
	}
	if !slices.Equal(l[:4], want) {
		t.Error("changed", l)
	}
}
