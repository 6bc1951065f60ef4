package merge_test

import (
	"fmt"
	"maps"
	"math/rand"
	"slices"
	"strings"
	"testing"

	"apograph/api"
	"apograph/merge"
)

// of is entries by words such as "a=1".
func of(words ...string) []api.Entry {
	var l []api.Entry
	for _, w := range words {
		k, v, _ := strings.Cut(w, "=")
		l = append(l, api.Entry{Key: k, Val: v})
	}
	return l
}

func has(val string) api.Side {
	return api.Side{Has: true, Val: val}
}

// none is a side without a value.
var none = api.Side{}

// clash is one of a key, of each side "=1" or "" for none.
func clash(key, base, ours, theirs string) api.Clash {
	side := func(w string) api.Side {
		v, is := strings.CutPrefix(w, "=")
		return api.Side{Has: is, Val: v}
	}
	return api.Clash{Key: key, Base: side(base), Ours: side(ours), Theirs: side(theirs)}
}

// turned is clashes with ours and theirs turned round.
func turned(l []api.Clash) []api.Clash {
	var out []api.Clash
	for _, x := range l {
		out = append(out, api.Clash{Key: x.Key, Base: x.Base, Ours: x.Theirs, Theirs: x.Ours})
	}
	return out
}

// values is a map of the language of entries, each value behind a "=", so that "" is none.
func values(l []api.Entry) map[string]string {
	m := map[string]string{}
	for _, x := range l {
		m[x.Key] = "=" + x.Val
	}
	return m
}

// list is the entries of such a map.
func list(m map[string]string) []api.Entry {
	var l []api.Entry
	for _, k := range slices.Sorted(maps.Keys(m)) {
		if v, is := strings.CutPrefix(m[k], "="); is {
			l = append(l, api.Entry{Key: k, Val: v})
		}
	}
	return l
}

// meant is three maps put together: ours, with what theirs alone changed; what both changed unlike is a clash.
func meant(base, ours, theirs []api.Entry) ([]api.Entry, []api.Clash) {
	b, o, t := values(base), values(ours), values(theirs)
	all, out := maps.Clone(b), maps.Clone(o)
	maps.Copy(all, o)
	maps.Copy(all, t)
	var clashes []api.Clash
	for _, k := range slices.Sorted(maps.Keys(all)) {
		mine, other := o[k] != b[k], t[k] != b[k]
		if other && !mine {
			out[k] = t[k]
		}
		if other && mine && o[k] != t[k] {
			clashes = append(clashes, clash(k, b[k], o[k], t[k]))
		}
	}
	return list(out), clashes
}

// comes asks Of for these entries and clashes, and for arguments that stay.
func comes(t *testing.T, base, ours, theirs, want []api.Entry, clashes []api.Clash) {
	t.Helper()
	b, o, th := slices.Clone(base), slices.Clone(ours), slices.Clone(theirs)
	l, c := merge.Of(base, ours, theirs)
	if !slices.Equal(l, want) || !slices.Equal(c, clashes) {
		t.Fatalf("Of(%v, %v, %v): %v, %v, not %v, %v", b, o, th, l, c, want, clashes)
	}
	if !slices.Equal(base, b) || !slices.Equal(ours, o) || !slices.Equal(theirs, th) {
		t.Fatalf("changed: %v, %v, %v", b, o, th)
	}
}

// merges asks for what Of tells of three maps, and for P12.3 and P12.4 of them.
func merges(t *testing.T, base, ours, theirs, want []api.Entry, clashes []api.Clash) {
	t.Helper()
	comes(t, base, ours, theirs, want, clashes)
	back, c := merge.Of(base, theirs, ours)
	if !slices.Equal(c, turned(clashes)) {
		t.Fatalf("Of(%v, %v, %v) clashes: %v, not %v turned", base, theirs, ours, c, clashes)
	}
	if len(clashes) == 0 && !slices.Equal(back, want) {
		t.Fatalf("Of(%v, %v, %v): %v, not %v", base, theirs, ours, back, want)
	}
	comes(t, base, ours, base, ours, nil)
	comes(t, base, base, theirs, theirs, nil)
	comes(t, base, ours, ours, ours, nil)
}

func TestExamples(t *testing.T) {
	a, b, c := has("a"), has("b"), has("c")
	if v, is := merge.Key(a, b, c); v != b || is {
		t.Error(v, is)
	}
}

// P12.1: which of three sides comes.
func TestP12_1Key(t *testing.T) {
	junk, other := api.Side{Val: "junk"}, api.Side{Val: "other"}
	x, y, z, empty := has("x"), has("y"), has("z"), has("")
	for _, k := range []struct {
		base, ours, theirs, want api.Side
		is                       bool
	}{
		// None has a value.
		{none, none, none, none, true},
		{junk, none, none, none, true},
		{none, junk, none, none, true},
		{none, none, junk, none, true},
		{junk, other, none, none, true},
		{none, junk, other, none, true},
		{junk, none, other, none, true},
		{junk, junk, junk, none, true},
		// One has: both took it away, or one added it.
		{x, none, none, none, true},
		{x, junk, none, none, true},
		{x, none, junk, none, true},
		{x, junk, other, none, true},
		{x, api.Side{Val: "x"}, api.Side{Val: "x"}, none, true},
		{none, x, none, x, true},
		{junk, x, none, x, true},
		{none, x, junk, x, true},
		{junk, x, other, x, true},
		{none, none, x, x, true},
		{junk, none, x, x, true},
		{none, junk, x, x, true},
		{junk, other, x, x, true},
		{api.Side{Val: "x"}, x, none, x, true},
		{api.Side{Val: "x"}, none, x, x, true},
		// Two have: one side took it away while the other left it, or changed it; both added it.
		{x, x, none, none, true},
		{x, x, junk, none, true},
		{x, x, api.Side{Val: "x"}, none, true},
		{x, none, x, none, true},
		{x, junk, x, none, true},
		{x, api.Side{Val: "x"}, x, none, true},
		{x, y, none, y, false},
		{x, y, junk, y, false},
		{x, y, api.Side{Val: "y"}, y, false},
		{x, none, y, none, false},
		{x, junk, y, none, false},
		{x, api.Side{Val: "y"}, y, none, false},
		{none, x, x, x, true},
		{junk, x, x, x, true},
		{none, x, y, x, false},
		{junk, x, y, x, false},
		{none, y, x, y, false},
		{api.Side{Val: "x"}, x, y, x, false},
		{api.Side{Val: "y"}, x, y, x, false},
		// All have.
		{x, x, x, x, true},
		{x, y, y, y, true},
		{x, y, x, y, true},
		{x, x, y, y, true},
		{x, y, z, y, false},
		{x, z, y, z, false},
		// An empty value is a value.
		{none, empty, none, empty, true},
		{none, none, empty, empty, true},
		{junk, empty, none, empty, true},
		{empty, none, none, none, true},
		{empty, empty, none, none, true},
		{empty, none, empty, none, true},
		{empty, x, none, x, false},
		{empty, none, x, none, false},
		{x, empty, none, empty, false},
		{x, none, empty, none, false},
		{none, empty, x, empty, false},
		{none, x, empty, x, false},
		{none, empty, empty, empty, true},
		{empty, empty, x, x, true},
		{empty, x, empty, x, true},
		{x, empty, empty, empty, true},
		{x, y, empty, y, false},
		// Byte by byte.
		{has("x"), has("x\x00"), has("X"), has("x\x00"), false},
		{has("é"), has("é"), has("e"), has("e"), true},
	} {
		if v, is := merge.Key(k.base, k.ours, k.theirs); v != k.want || is != k.is {
			t.Errorf("Key(%v, %v, %v): %v, %v, not %v, %v", k.base, k.ours, k.theirs, v, is, k.want, k.is)
		}
	}
}

// P12.1, P12.3, P12.4 of all threes of sides of which some have no value but a Val.
func TestP12_1All(t *testing.T) {
	all := []api.Side{none, {Val: "1"}, {Val: "2"}, has(""), has("1"), has("2"), has("3")}
	bare := func(x api.Side) api.Side {
		if x.Has {
			return x
		}
		return none
	}
	for _, b := range all {
		for _, o := range all {
			if v, is := merge.Key(b, o, b); v != bare(o) || !is {
				t.Errorf("Key(%v, %v, %v): %v, %v", b, o, b, v, is)
			}
			if v, is := merge.Key(b, b, o); v != bare(o) || !is {
				t.Errorf("Key(%v, %v, %v): %v, %v", b, b, o, v, is)
			}
			for _, th := range all {
				mine, other := bare(o) != bare(b), bare(th) != bare(b)
				want, clean := bare(o), !mine || !other || bare(o) == bare(th)
				if other && !mine {
					want = bare(th)
				}
				v, is := merge.Key(b, o, th)
				if v != want || is != clean {
					t.Errorf("Key(%v, %v, %v): %v, %v, not %v, %v", b, o, th, v, is, want, clean)
				}
				if w, too := merge.Key(b, th, o); too != is || is && w != v {
					t.Errorf("Key(%v, %v, %v) both ways: %v, %v and %v, %v", b, o, th, v, is, w, too)
				}
			}
		}
	}
}

// P12.2: one key in each of the ways that three maps may have it, alone, and at the front, amid and at the end of others.
func TestP12_2OneKey(t *testing.T) {
	for _, x := range []struct {
		base, ours, theirs, want string
		clash                    bool
	}{
		{"", "", "", "", false},
		{"k=1", "", "", "", false},
		{"", "k=1", "", "k=1", false},
		{"", "", "k=1", "k=1", false},
		{"k=1", "k=1", "", "", false},
		{"k=1", "", "k=1", "", false},
		{"k=1", "k=2", "", "k=2", true},
		{"k=1", "", "k=2", "", true},
		{"", "k=1", "k=1", "k=1", false},
		{"", "k=1", "k=2", "k=1", true},
		{"k=1", "k=1", "k=1", "k=1", false},
		{"k=1", "k=2", "k=1", "k=2", false},
		{"k=1", "k=1", "k=2", "k=2", false},
		{"k=1", "k=2", "k=2", "k=2", false},
		{"k=1", "k=2", "k=3", "k=2", true},
		// Empty values.
		{"", "k=", "", "k=", false},
		{"", "", "k=", "k=", false},
		{"k=", "k=", "", "", false},
		{"k=", "", "", "", false},
		{"k=1", "k=", "", "k=", true},
		{"k=1", "", "k=", "", true},
		{"", "k=", "k=1", "k=", true},
	} {
		for _, about := range [][2][]api.Entry{{}, {nil, of("x=7", "y=8")}, {of("a=7"), of("x=8")}, {of("a=7", "b=8"), nil}} {
			with := func(w string) []api.Entry {
				l := slices.Clone(about[0])
				if w != "" {
					l = append(l, of(w)...)
				}
				return append(l, about[1]...)
			}
			var clashes []api.Clash
			if x.clash {
				part := func(w string) string { return strings.TrimPrefix(w, "k") }
				clashes = append(clashes, clash("k", part(x.base), part(x.ours), part(x.theirs)))
			}
			merges(t, with(x.base), with(x.ours), with(x.theirs), with(x.want), clashes)
		}
	}
}

func TestP12_2Of(t *testing.T) {
	long := strings.Repeat("x", 300)
	three := of("b=2", "d=4", "f=6")
	for _, x := range []struct {
		base, ours, theirs, want []api.Entry
		clashes                  []api.Clash
	}{
		{nil, nil, nil, nil, nil},
		{[]api.Entry{}, nil, three[:0], nil, nil},
		{three, three, three, three, nil},
		{three, nil, nil, nil, nil},
		{nil, three, three, three, nil},
		{three, three, nil, nil, nil},
		// Each side changed other keys: at the front, amid, at the end.
		{three, of("b=1", "d=4", "f=6"), of("b=2", "d=4", "f=1"), of("b=1", "d=4", "f=1"), nil},
		{three, of("b=2", "d=", "f=6"), of("b=1", "d=4", "f=1"), of("b=1", "d=", "f=1"), nil},
		{three, of("a=1", "b=2", "d=4", "f=6"), of("b=2", "d=4", "f=6", "g=1"), of("a=1", "b=2", "d=4", "f=6", "g=1"), nil},
		{three, of("b=2", "c=1", "d=4", "f=6"), of("b=2", "d=4", "e=1", "f=6"), of("b=2", "c=1", "d=4", "e=1", "f=6"), nil},
		{three, of("d=4", "f=6"), of("b=2", "d=4"), of("d=4"), nil},
		{three, of("d=4", "f=6"), of("b=2", "f=6"), of("f=6"), nil},
		{three, of("a=", "d=4", "f=7"), of("b=2", "f=6", "g="), of("a=", "f=7", "g="), nil},
		// The same on both.
		{three, of("b=1", "d=4", "g=7"), of("b=1", "d=4", "g=7"), of("b=1", "d=4", "g=7"), nil},
		{three, of("b=1", "d=4", "g=7"), of("b=1", "d=5", "g=7"), of("b=1", "d=5", "g=7"), nil},
		// No key in common.
		{three, of("a=1", "c=3"), of("e=5", "g=7"), of("a=1", "c=3", "e=5", "g=7"), nil},
		{nil, of("a=1", "c=3"), of("b=2", "d=4"), of("a=1", "b=2", "c=3", "d=4"), nil},
		{nil, of("c=1", "d=3"), of("a=2", "b=4"), of("a=2", "b=4", "c=1", "d=3"), nil},
		{of("x=1"), of("y=1"), of("z=1"), of("y=1", "z=1"), nil},
		// Clashes stand by key, and the others come all the same.
		{three, of("b=0", "d=0", "f=0"), of("b=1", "d=1", "f=1"), of("b=0", "d=0", "f=0"), []api.Clash{clash("b", "=2", "=0", "=1"), clash("d", "=4", "=0", "=1"), clash("f", "=6", "=0", "=1")}},
		{three, of("b=0", "d=4", "f=6"), of("b=1", "d=1", "f=6"), of("b=0", "d=1", "f=6"), []api.Clash{clash("b", "=2", "=0", "=1")}},
		{three, of("b=2", "d=0", "f=6"), of("b=1", "d=1", "f=1"), of("b=1", "d=0", "f=1"), []api.Clash{clash("d", "=4", "=0", "=1")}},
		{three, of("b=2", "d=4", "f=0"), of("b=1", "d=4", "f=1"), of("b=1", "d=4", "f=0"), []api.Clash{clash("f", "=6", "=0", "=1")}},
		{three, nil, of("b=1", "d=1", "f=1"), nil, []api.Clash{clash("b", "=2", "", "=1"), clash("d", "=4", "", "=1"), clash("f", "=6", "", "=1")}},
		{three, of("b=1", "d=1", "f=1"), nil, of("b=1", "d=1", "f=1"), []api.Clash{clash("b", "=2", "=1", ""), clash("d", "=4", "=1", ""), clash("f", "=6", "=1", "")}},
		{nil, three, of("b=1", "c=1", "f="), of("b=2", "c=1", "d=4", "f=6"), []api.Clash{clash("b", "", "=2", "=1"), clash("f", "", "=6", "=")}},
		// Byte by byte.
		{of("Z=1", "a=1"), of("Z=1", "a\x00=1"), of("10=1", "9=1", "Z=1", "a=1", "\xff=1"), of("10=1", "9=1", "Z=1", "a\x00=1", "\xff=1"), nil},
		// Of a list nothing is asked but keys that rise: not what may be in a node.
		{of("=1", "a=2"), of("=2", "a=2"), of("=1", "a="), of("=2", "a="), nil},
		{of("="), of("=1"), nil, of("=1"), []api.Clash{clash("", "=", "=1", "")}},
		{of(long + "=1"), of(long + "=" + long), of(long + "=2"), of(long + "=" + long), []api.Clash{clash(long, "=1", "="+long, "=2")}},
	} {
		merges(t, x.base, x.ours, x.theirs, x.want, x.clashes)
	}
}

// small is all maps of these keys, each with one of four values or none.
func small(keys ...string) [][]api.Entry {
	all := [][]api.Entry{nil}
	for _, k := range keys {
		for _, l := range slices.Clone(all) {
			for _, v := range []string{"", "1", "2", "3"} {
				all = append(all, append(slices.Clone(l), api.Entry{Key: k, Val: v}))
			}
		}
	}
	return all
}

// P12.2, P12.3, P12.4 of all threes of small maps.
func TestP12_2Small(t *testing.T) {
	all := small("a", "b")
	for _, b := range all {
		for _, o := range all {
			for _, th := range all {
				want, clashes := meant(b, o, th)
				merges(t, b, o, th, want, clashes)
			}
		}
	}
}

// chance is a map by chance of up to so many keys.
func chance(r *rand.Rand, keys int) []api.Entry {
	var l []api.Entry
	for i := range keys {
		if r.Intn(3) > 0 {
			l = append(l, api.Entry{Key: fmt.Sprintf("k%05d", i), Val: strings.Repeat("v", r.Intn(3))})
		}
	}
	return l
}

// near is a map with one key in ten of so many changed.
func near(r *rand.Rand, l []api.Entry, keys int) []api.Entry {
	m := values(l)
	for range 1 + keys/10 {
		m[fmt.Sprintf("k%05d", r.Intn(keys+1))] = []string{"", "=", "=v", "=new"}[r.Intn(4)]
	}
	return list(m)
}

// P12.2, P12.3, P12.4 of many maps.
func TestP12_2Chance(t *testing.T) {
	r := rand.New(rand.NewSource(12))
	for i := range 2000 {
		b := chance(r, i%60)
		o, th := chance(r, i%47), chance(r, i%53)
		if i%2 == 0 {
			o, th = near(r, b, i%60), near(r, b, i%60)
		}
		want, clashes := meant(b, o, th)
		merges(t, b, o, th, want, clashes)
	}
	b, o, th := chance(r, 20_000), chance(r, 20_000), chance(r, 20_000)
	want, clashes := meant(b, o, th)
	merges(t, b, o, th, want, clashes)
}

// lists is all lists of up to n of these entries, whatever their keys are.
func lists(n int, l ...api.Entry) [][]api.Entry {
	all := [][]api.Entry{nil}
	for from := 0; n > 0; n-- {
		to := len(all)
		for _, had := range all[from:to] {
			for _, x := range l {
				all = append(all, append(slices.Clone(had), x))
			}
		}
		from = to
	}
	return all
}

// P1, P3: of keys that fall or are the same there is an end, the same each time, and nothing that is given is changed.
func TestP12_2NoRise(t *testing.T) {
	all := lists(3, of("a=1", "b=2", "b=3")...)
	for _, b := range all {
		for _, o := range all {
			for _, th := range all {
				l, c := merge.Of(slices.Clone(b), slices.Clone(o), slices.Clone(th))
				comes(t, b, o, th, l, c)
			}
		}
	}
	same, fall := slices.Repeat(of("a=1"), 10_000), slices.Repeat(of("c=", "b=", "a="), 5000)
	for _, b := range [][]api.Entry{same, fall, of("a="), nil} {
		for _, o := range [][]api.Entry{same, fall, nil} {
			for _, th := range [][]api.Entry{same, fall, nil} {
				merge.Of(b, o, th)
			}
		}
	}
}

// P2: what lies behind a list's length is nothing to Of; what is answered shares no memory.
func TestP2Of(t *testing.T) {
	b, o, th := of("a=1", "b=2", "x=0"), of("a=2", "b=2", "x=1"), of("a=3", "c=3", "x=2")
	want, clashes := of("a=2", "c=3"), []api.Clash{clash("a", "=1", "=2", "=3")}
	merges(t, b[:2], o[:2], th[:2], want, clashes)
	l, c := merge.Of(b[:2], o[:2], th[:2])
	other, too := merge.Of(b[:2], o[:2], th[:2])
	clear(other[:cap(other)])
	clear(too[:cap(too)])
	for _, x := range [][]api.Entry{b, o, th} {
		clear(x)
	}
	if !slices.Equal(l, want) || !slices.Equal(c, clashes) {
		t.Error(l, c)
	}
	// What comes of one side alone is new memory as well.
	b, o = of("a=1"), of("a=1", "b=2")
	l, _ = merge.Of(b, o, b)
	back, _ := merge.Of(b, b, o)
	clear(o)
	if !slices.Equal(l, of("a=1", "b=2")) || !slices.Equal(back, of("a=1", "b=2")) {
		t.Error(l, back)
	}
}

// threes reads three maps from bytes.
func threes(b []byte) (all [3][]api.Entry) {
	for len(b) >= 3 {
		key := string(b[1:2])
		if b[0]&64 > 0 {
			key += "+"
		}
		for i := range all {
			if b[0]>>(2*i)&1 > 0 {
				all[i] = append(all[i], api.Entry{Key: key, Val: string('0' + b[0]>>(2*i+1)&1)})
			}
		}
		if b[0]&128 > 0 {
			all[2] = append(all[2], api.Entry{Key: key, Val: string(b[2:3])})
		}
		b = b[3:]
	}
	return all
}

func FuzzOf(f *testing.F) {
	r := rand.New(rand.NewSource(1))
	for range 20 {
		b := make([]byte, r.Intn(200))
		r.Read(b)
		f.Add(b)
	}
	f.Fuzz(func(t *testing.T, b []byte) {
		all := threes(b)
		merge.Of(all[0], all[1], all[2])
		x, y, z := list(values(all[0])), list(values(all[1])), list(values(all[2]))
		want, clashes := meant(x, y, z)
		merges(t, x, y, z, want, clashes)
	})
}
