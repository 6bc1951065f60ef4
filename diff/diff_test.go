package diff_test

import (
	"fmt"
	"maps"
	"math/rand"
	"slices"
	"strings"
	"testing"

	"apograph/api"
	"apograph/diff"
)

// of is entries by words such as "a=1".
func of(words ...string) []api.Entry {
	var l []api.Entry
	for _, w := range words {
		k, v, _ := strings.Cut(w, "=")
		l = append(l, api.Entry{Key: k, Val: v})
	}
	return l
}

func added(key, val string) api.Change {
	return api.Change{Key: key, Has: true, Now: val}
}

func taken(key, val string) api.Change {
	return api.Change{Key: key, Had: true, Was: val}
}

func changed(key, was, now string) api.Change {
	return api.Change{Key: key, Had: true, Was: was, Has: true, Now: now}
}

// values is a map of the language of entries; of one key the last one's.
func values(l []api.Entry) map[string]string {
	m := map[string]string{}
	for _, x := range l {
		m[x.Key] = x.Val
	}
	return m
}

// meant is what two maps differ in, key by key.
func meant(a, b []api.Entry) []api.Change {
	x, y := values(a), values(b)
	all := maps.Clone(x)
	maps.Copy(all, y)
	var l []api.Change
	for _, k := range slices.Sorted(maps.Keys(all)) {
		was, had := x[k]
		now, has := y[k]
		if had != has || was != now {
			l = append(l, api.Change{Key: k, Had: had, Was: was, Has: has, Now: now})
		}
	}
	return l
}

// differ asks for what Of tells of two maps, both ways round, for P11.3, and for arguments that stay.
func differ(t *testing.T, a, b []api.Entry, want []api.Change) {
	t.Helper()
	wasA, wasB := slices.Clone(a), slices.Clone(b)
	l, back := diff.Of(a, b), diff.Of(b, a)
	if !slices.Equal(l, want) {
		t.Fatalf("Of(%v, %v): %v, not %v", a, b, l, want)
	}
	if turned := diff.Turn(l); !slices.Equal(turned, back) {
		t.Fatalf("Turn(Of(%v, %v)): %v, not %v", a, b, turned, back)
	}
	if got := diff.Apply(a, diff.Edits(l)); !slices.Equal(got, b) {
		t.Fatalf("%v with %v: %v, not %v", a, l, got, b)
	}
	if got := diff.Apply(b, diff.Edits(back)); !slices.Equal(got, a) {
		t.Fatalf("%v with %v: %v, not %v", b, back, got, a)
	}
	if !slices.Equal(a, wasA) || !slices.Equal(b, wasB) {
		t.Fatalf("changed: %v, %v", wasA, wasB)
	}
}

func TestExamples(t *testing.T) {
	l := diff.Of([]api.Entry{{Key: "a", Val: "1"}}, []api.Entry{{Key: "a", Val: "2"}})
	if len(l) != 1 || l[0] != (api.Change{Key: "a", Had: true, Was: "1", Has: true, Now: "2"}) {
		t.Error(l)
	}
}

func TestP11_1Of(t *testing.T) {
	long := strings.Repeat("x", 300)
	three := of("b=2", "d=4", "f=6")
	for _, x := range []struct {
		a, b []api.Entry
		want []api.Change
	}{
		{nil, nil, nil},
		{[]api.Entry{}, nil, nil},
		{nil, three[:0], nil},
		{nil, three, []api.Change{added("b", "2"), added("d", "4"), added("f", "6")}},
		{three, nil, []api.Change{taken("b", "2"), taken("d", "4"), taken("f", "6")}},
		{three, three, nil},
		{three, of("b=2", "d=4", "f=6"), nil},
		// One key with another value: at the front, amid, at the end, all of them.
		{three, of("b=3", "d=4", "f=6"), []api.Change{changed("b", "2", "3")}},
		{three, of("b=2", "d=5", "f=6"), []api.Change{changed("d", "4", "5")}},
		{three, of("b=2", "d=4", "f=7"), []api.Change{changed("f", "6", "7")}},
		{three, of("b=3", "d=5", "f=7"), []api.Change{changed("b", "2", "3"), changed("d", "4", "5"), changed("f", "6", "7")}},
		// An empty value is a value.
		{three, of("b=2", "d=", "f=6"), []api.Change{changed("d", "4", "")}},
		{of("d="), of("d=4"), []api.Change{changed("d", "", "4")}},
		{of("d="), of("d="), nil},
		{of("d="), nil, []api.Change{taken("d", "")}},
		{nil, of("d="), []api.Change{added("d", "")}},
		{of("c=", "d="), of("d="), []api.Change{taken("c", "")}},
		// Keys that one of the two has alone.
		{three, of("a=1", "b=2", "d=4", "f=6"), []api.Change{added("a", "1")}},
		{three, of("b=2", "c=3", "d=4", "f=6"), []api.Change{added("c", "3")}},
		{three, of("b=2", "d=4", "f=6", "g=7"), []api.Change{added("g", "7")}},
		{three, of("a=", "b=2", "c=", "d=4", "e=", "f=6", "g="), []api.Change{added("a", ""), added("c", ""), added("e", ""), added("g", "")}},
		{three, of("d=4", "f=6"), []api.Change{taken("b", "2")}},
		{three, of("b=2", "f=6"), []api.Change{taken("d", "4")}},
		{three, of("b=2", "d=4"), []api.Change{taken("f", "6")}},
		{three, of("a=1", "d=5", "g=7"), []api.Change{added("a", "1"), taken("b", "2"), changed("d", "4", "5"), taken("f", "6"), added("g", "7")}},
		// No key in common: one behind the other, and in turns.
		{three, of("g=2", "h=4"), []api.Change{taken("b", "2"), taken("d", "4"), taken("f", "6"), added("g", "2"), added("h", "4")}},
		{three, of("0=2", "1=4"), []api.Change{added("0", "2"), added("1", "4"), taken("b", "2"), taken("d", "4"), taken("f", "6")}},
		{three, of("a=2", "c=4", "e=6"), []api.Change{added("a", "2"), taken("b", "2"), added("c", "4"), taken("d", "4"), added("e", "6"), taken("f", "6")}},
		// Byte by byte.
		{of("a=1"), of("a\x00=1"), []api.Change{taken("a", "1"), added("a\x00", "1")}},
		{of("9=1", "Z=2"), of("10=1", "Z=2"), []api.Change{added("10", "1"), taken("9", "1")}},
		{of("z=1"), of("\xff=1"), []api.Change{taken("z", "1"), added("\xff", "1")}},
		{of("Z=1"), of("a=1"), []api.Change{taken("Z", "1"), added("a", "1")}},
		{of("a=1"), of("a=1\x00"), []api.Change{changed("a", "1", "1\x00")}},
		// Of a list nothing is asked but keys that rise: not what may be in a node.
		{of("=1", "a=2"), of("=2", "a=2"), []api.Change{changed("", "1", "2")}},
		{of("="), nil, []api.Change{taken("", "")}},
		{nil, of("=", "a="), []api.Change{added("", ""), added("a", "")}},
		{of(long + "=" + long), of(long + "=" + long + "y"), []api.Change{changed(long, long, long+"y")}},
	} {
		differ(t, x.a, x.b, x.want)
		differ(t, x.b, x.a, diff.Turn(x.want))
	}
}

// small is all maps of three keys, each with one of three values or none.
func small() [][]api.Entry {
	var all [][]api.Entry
	for i := range 64 {
		var l []api.Entry
		for at, k := range []string{"a", "b", "c"} {
			if v := i >> (2 * at) % 4; v > 0 {
				l = append(l, api.Entry{Key: k, Val: []string{"", "", "1", "2"}[v]})
			}
		}
		all = append(all, l)
	}
	return all
}

// P11.1, P11.3 of all pairs of small maps.
func TestP11_1Small(t *testing.T) {
	for _, a := range small() {
		for _, b := range small() {
			differ(t, a, b, meant(a, b))
		}
	}
}

// chance is a map by chance of up to so many keys.
func chance(r *rand.Rand, keys int) []api.Entry {
	var l []api.Entry
	for i := range keys {
		if r.Intn(3) > 0 {
			l = append(l, api.Entry{Key: fmt.Sprintf("k%05d", i), Val: strings.Repeat("v", r.Intn(3))})
		}
	}
	return l
}

// P11.1, P11.3 of many maps.
func TestP11_3Chance(t *testing.T) {
	r := rand.New(rand.NewSource(11))
	for i := range 2000 {
		a, b := chance(r, i%60), chance(r, i%47)
		differ(t, a, b, meant(a, b))
	}
	a, b := chance(r, 50_000), chance(r, 50_000)
	differ(t, a, b, meant(a, b))
	differ(t, a, nil, meant(a, nil))
}

// lists is all lists of up to n of these entries, whatever their keys are.
func lists(n int, l ...api.Entry) [][]api.Entry {
	all := [][]api.Entry{nil}
	for from := 0; n > 0; n-- {
		to := len(all)
		for _, had := range all[from:to] {
			for _, x := range l {
				all = append(all, append(slices.Clone(had), x))
			}
		}
		from = to
	}
	return all
}

// P1, P11.1: of keys that fall or are the same there is an end, and nothing that is given is changed.
func TestP11_1NoRise(t *testing.T) {
	all := lists(4, of("a=1", "b=2", "b=3", "c=")...)
	for _, a := range all {
		for _, b := range all {
			if len(a)+len(b) > 6 {
				continue
			}
			wasA, wasB := slices.Clone(a), slices.Clone(b)
			l := diff.Of(a, b)
			if again := diff.Of(slices.Clone(wasA), slices.Clone(wasB)); !slices.Equal(l, again) {
				t.Fatal(a, b, l, again)
			}
			if !slices.Equal(a, wasA) || !slices.Equal(b, wasB) {
				t.Fatal("changed", wasA, wasB)
			}
		}
	}
	same := slices.Repeat(of("a=1"), 10_000)
	fall := of("c=", "b=", "a=")
	for _, a := range [][]api.Entry{same, fall, of("a="), nil} {
		for _, b := range [][]api.Entry{same, fall, slices.Repeat(fall, 10_000)} {
			diff.Of(a, b)
			diff.Of(b, a)
		}
	}
}

// P2: what lies behind a list's length is nothing to Of; what is answered shares no memory.
func TestP2Of(t *testing.T) {
	a, b := of("a=1", "b=2", "c=3", "d=4"), of("b=3", "c=3", "d=5", "e=6")
	want := []api.Change{taken("a", "1"), changed("b", "2", "3"), added("c", "3")}
	differ(t, a[:2], b[:2], want)
	l, other := diff.Of(a[:2], b[:2]), diff.Of(a[:2], b[:2])
	clear(other[:cap(other)])
	clear(a)
	clear(b)
	if !slices.Equal(l, want) {
		t.Error(l)
	}
}

// pairs reads two maps, and edits in any order, from bytes.
func pairs(b []byte) (x, y []api.Entry, edits []api.Edit) {
	for len(b) >= 3 {
		key, val := string(b[1:2]), string(b[2:3])
		if b[0]&4 > 0 {
			key, val = key+"+", ""
		}
		switch b[0] & 3 {
		case 0:
			x = append(x, api.Entry{Key: key, Val: val})
		case 1:
			y = append(y, api.Entry{Key: key, Val: val})
		case 2:
			x, y = append(x, api.Entry{Key: key, Val: val}), append(y, api.Entry{Key: key, Val: val})
		case 3:
			edits = append(edits, api.Edit{Key: key, Val: val, Gone: b[0]&8 > 0})
		}
		b = b[3:]
	}
	return x, y, edits
}

// sorted is entries as a map has them, of one key the last one.
func sorted(l []api.Entry) []api.Entry {
	m := values(l)
	var out []api.Entry
	for _, k := range slices.Sorted(maps.Keys(m)) {
		out = append(out, api.Entry{Key: k, Val: m[k]})
	}
	return out
}

func FuzzOf(f *testing.F) {
	r := rand.New(rand.NewSource(1))
	for range 20 {
		b := make([]byte, r.Intn(200))
		r.Read(b)
		f.Add(b)
	}
	f.Fuzz(func(t *testing.T, b []byte) {
		x, y, edits := pairs(b)
		diff.Of(x, y)
		applies(t, x, edits)
		x, y = sorted(x), sorted(y)
		differ(t, x, y, meant(x, y))
		applies(t, x, edits)
	})
}
