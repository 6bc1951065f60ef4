package diff_test

import (
	"math/rand"
	"slices"
	"strconv"
	"strings"
	"testing"

	"apograph/api"
	"apograph/diff"
)

func put(key, val string) api.Edit {
	return api.Edit{Key: key, Val: val}
}

func gone(key string) api.Edit {
	return api.Edit{Key: key, Gone: true}
}

// done is a map with edits done in order, by a map of the language.
func done(l []api.Entry, edits []api.Edit) []api.Entry {
	m := values(l)
	for _, x := range edits {
		if x.Gone {
			delete(m, x.Key)
		} else {
			m[x.Key] = x.Val
		}
	}
	var out []api.Entry
	for k, v := range m {
		out = append(out, api.Entry{Key: k, Val: v})
	}
	slices.SortFunc(out, func(a, b api.Entry) int { return strings.Compare(a.Key, b.Key) })
	return out
}

// applies asks Apply for a map with the edits done, and for arguments that stay.
func applies(t *testing.T, a []api.Entry, l []api.Edit) {
	t.Helper()
	wasA, wasL := slices.Clone(a), slices.Clone(l)
	got, want := diff.Apply(a, l), done(a, l)
	if !slices.Equal(got, want) {
		t.Fatalf("%v with %v: %v, not %v", a, l, got, want)
	}
	if !slices.Equal(a, wasA) || !slices.Equal(l, wasL) {
		t.Fatalf("changed: %v, %v", wasA, wasL)
	}
}

// P11.2: one edit of each change, in their order.
func TestP11_2Edits(t *testing.T) {
	for _, x := range []struct {
		l    []api.Change
		want []api.Edit
	}{
		{nil, nil},
		{[]api.Change{}, nil},
		{[]api.Change{added("a", "1")}, []api.Edit{put("a", "1")}},
		{[]api.Change{added("a", "")}, []api.Edit{put("a", "")}},
		{[]api.Change{changed("a", "1", "2")}, []api.Edit{put("a", "2")}},
		{[]api.Change{changed("a", "1", "")}, []api.Edit{put("a", "")}},
		{[]api.Change{changed("a", "", "2")}, []api.Edit{put("a", "2")}},
		{[]api.Change{taken("a", "1")}, []api.Edit{gone("a")}},
		{[]api.Change{taken("a", "")}, []api.Edit{gone("a")}},
		{[]api.Change{added("", "1"), taken("", "1")}, []api.Edit{put("", "1"), gone("")}},
		// In any order, of one key too.
		{[]api.Change{taken("c", "1"), added("a", "2"), changed("b", "3", "4")}, []api.Edit{gone("c"), put("a", "2"), put("b", "4")}},
		{[]api.Change{taken("a", "1"), added("a", "2"), taken("a", "2"), added("a", "3")}, []api.Edit{gone("a"), put("a", "2"), gone("a"), put("a", "3")}},
		// Of changes that Of doesn't tell: what counts is whether it has, and a Gone has no value.
		{[]api.Change{{}}, []api.Edit{gone("")}},
		{[]api.Change{{Key: "a"}}, []api.Edit{gone("a")}},
		{[]api.Change{{Key: "a", Was: "1", Now: "2"}}, []api.Edit{gone("a")}},
		{[]api.Change{{Key: "a", Had: true, Was: "1", Now: "2"}}, []api.Edit{gone("a")}},
		{[]api.Change{changed("a", "1", "1")}, []api.Edit{put("a", "1")}},
		{[]api.Change{{Key: "a", Was: "1", Has: true, Now: "2"}}, []api.Edit{put("a", "2")}},
	} {
		was := slices.Clone(x.l)
		if got := diff.Edits(x.l); !slices.Equal(got, x.want) {
			t.Errorf("Edits(%v): %v, not %v", x.l, got, x.want)
		}
		if !slices.Equal(x.l, was) {
			t.Error("changed", was)
		}
	}
}

// P11.2: both sides turned round, whatever they are, in the same order; twice is as it was.
func TestP11_2Turn(t *testing.T) {
	for _, x := range []struct{ l, want []api.Change }{
		{nil, nil},
		{[]api.Change{}, nil},
		{[]api.Change{added("a", "1")}, []api.Change{taken("a", "1")}},
		{[]api.Change{added("a", "")}, []api.Change{taken("a", "")}},
		{[]api.Change{changed("a", "1", "2")}, []api.Change{changed("a", "2", "1")}},
		{[]api.Change{changed("a", "", "2")}, []api.Change{changed("a", "2", "")}},
		{[]api.Change{added("c", "1"), taken("a", "2"), changed("b", "3", "4")}, []api.Change{taken("c", "1"), added("a", "2"), changed("b", "4", "3")}},
		{[]api.Change{added("a", "1"), added("a", "1")}, []api.Change{taken("a", "1"), taken("a", "1")}},
		{[]api.Change{{}}, []api.Change{{}}},
		{[]api.Change{{Key: "a", Was: "1", Now: "2"}}, []api.Change{{Key: "a", Was: "2", Now: "1"}}},
		{[]api.Change{{Key: "a", Had: true, Now: "2"}}, []api.Change{{Key: "a", Has: true, Was: "2"}}},
	} {
		for _, y := range [][2][]api.Change{{x.l, x.want}, {x.want, x.l}} {
			was := slices.Clone(y[0])
			got := diff.Turn(y[0])
			if !slices.Equal(got, y[1]) {
				t.Errorf("Turn(%v): %v, not %v", y[0], got, y[1])
			}
			if !slices.Equal(y[0], was) {
				t.Error("changed", was)
			}
			if again := diff.Turn(got); !slices.Equal(again, was) {
				t.Errorf("twice: %v, not %v", again, was)
			}
		}
	}
}

func TestP11_2Apply(t *testing.T) {
	three := of("b=2", "d=4", "f=6")
	for _, x := range []struct {
		a    []api.Entry
		l    []api.Edit
		want []api.Entry
	}{
		{nil, nil, nil},
		{[]api.Entry{}, []api.Edit{}, nil},
		{three, nil, three},
		{nil, []api.Edit{put("a", "1")}, of("a=1")},
		{nil, []api.Edit{gone("a")}, nil},
		{three, []api.Edit{put("a", "1")}, of("a=1", "b=2", "d=4", "f=6")},
		{three, []api.Edit{put("c", "3")}, of("b=2", "c=3", "d=4", "f=6")},
		{three, []api.Edit{put("g", "7")}, of("b=2", "d=4", "f=6", "g=7")},
		{three, []api.Edit{put("b", "1")}, of("b=1", "d=4", "f=6")},
		{three, []api.Edit{put("d", "")}, of("b=2", "d=", "f=6")},
		{three, []api.Edit{put("f", "6")}, three},
		{three, []api.Edit{gone("b")}, of("d=4", "f=6")},
		{three, []api.Edit{gone("d")}, of("b=2", "f=6")},
		{three, []api.Edit{gone("f")}, of("b=2", "d=4")},
		{three, []api.Edit{gone("a"), gone("c"), gone("g")}, three},
		// The same key twice: the last one counts.
		{three, []api.Edit{put("d", "1"), put("d", "2")}, of("b=2", "d=2", "f=6")},
		{three, []api.Edit{put("d", "2"), put("d", "1")}, of("b=2", "d=1", "f=6")},
		{three, []api.Edit{put("d", "1"), gone("d")}, of("b=2", "f=6")},
		{three, []api.Edit{gone("d"), put("d", "1")}, of("b=2", "d=1", "f=6")},
		{three, []api.Edit{gone("d"), gone("d")}, of("b=2", "f=6")},
		{three, []api.Edit{put("c", "1"), gone("c")}, three},
		{three, []api.Edit{gone("c"), put("c", "1")}, of("b=2", "c=1", "d=4", "f=6")},
		{three, []api.Edit{put("c", "1"), put("z", "2"), gone("c"), put("a", "3"), put("c", "4")}, of("a=3", "b=2", "c=4", "d=4", "f=6", "z=2")},
		// All keys, in any order.
		{three, []api.Edit{gone("f"), gone("b"), gone("d")}, nil},
		{three, []api.Edit{put("f", "1"), put("b", ""), put("d", "3")}, of("b=", "d=3", "f=1")},
		{nil, []api.Edit{put("f", "6"), put("d", "4"), put("b", "2")}, three},
		// The value of one that is Gone is nothing.
		{three, []api.Edit{{Key: "d", Val: "5", Gone: true}}, of("b=2", "f=6")},
		{three, []api.Edit{{Key: "c", Val: "5", Gone: true}}, three},
		{three, []api.Edit{{Key: "d", Val: "5", Gone: true}, put("d", "6"), {Key: "f", Val: "5", Gone: true}}, of("b=2", "d=6")},
		// Byte by byte, and no limits.
		{of("Z=1"), []api.Edit{put("\xff", "3"), put("a\x00", "2"), put("", "0")}, of("=0", "Z=1", "a\x00=2", "\xff=3")},
		{nil, []api.Edit{put(strings.Repeat("k", 41), strings.Repeat("v", 201))}, of(strings.Repeat("k", 41) + "=" + strings.Repeat("v", 201))},
	} {
		if got := diff.Apply(x.a, x.l); !slices.Equal(got, x.want) {
			t.Errorf("%v with %v: %v, not %v", x.a, x.l, got, x.want)
		}
		applies(t, x.a, x.l)
	}
}

// P11.2 of all rows of up to four of some edits.
func TestP11_2ApplySmall(t *testing.T) {
	words := []api.Edit{put("a", "1"), put("b", "1"), put("b", "2"), gone("b"), put("c", ""), gone("c")}
	rows := [][]api.Edit{nil}
	for from, n := 0, 0; n < 4; n++ {
		to := len(rows)
		for _, had := range rows[from:to] {
			for _, x := range words {
				rows = append(rows, append(slices.Clone(had), x))
			}
		}
		from = to
	}
	for _, l := range rows {
		for _, a := range [][]api.Entry{nil, of("b=0"), of("a=0", "c=0"), of("0=0", "b=1", "d=0")} {
			applies(t, a, l)
		}
	}
}

func TestP11_2ApplyChance(t *testing.T) {
	r := rand.New(rand.NewSource(5))
	for i := range 1000 {
		a := chance(r, i%50)
		var l []api.Edit
		for range r.Intn(60) {
			key := "k000" + strconv.Itoa(10+r.Intn(50))
			l = append(l, api.Edit{Key: key, Val: strconv.Itoa(r.Intn(3)), Gone: r.Intn(3) == 0})
		}
		applies(t, a, l)
	}
	var l []api.Edit
	for i := range 50_000 {
		l = append(l, api.Edit{Key: strconv.Itoa(i * 7919 % 30_011), Val: strconv.Itoa(i), Gone: i%5 == 0})
	}
	applies(t, chance(r, 1000), l)
	applies(t, nil, l)
}

// The keys of what Apply answers rise, whatever the entries are that it is given: of one key the last one counts.
func TestP11_2ApplyNoRise(t *testing.T) {
	for _, a := range lists(4, of("a=1", "b=2", "b=3", "c=")...) {
		applies(t, a, nil)
		applies(t, a, []api.Edit{put("b", "4")})
		applies(t, a, []api.Edit{gone("b"), put("aa", "5")})
	}
}

// P2: what lies behind a list's length is nothing; what is answered shares no memory.
func TestP2Edits(t *testing.T) {
	l := []api.Change{added("a", "1"), taken("b", "2"), changed("c", "3", "4"), added("d", "5")}
	was := slices.Clone(l)
	edits, turned := diff.Edits(l[:2]), diff.Turn(l[:2])
	other, again := diff.Edits(l[:2]), diff.Turn(l[:2])
	clear(other[:cap(other)])
	clear(again[:cap(again)])
	if !slices.Equal(l, was) {
		t.Error("changed", l)
	}
	clear(l)
	if !slices.Equal(edits, []api.Edit{put("a", "1"), gone("b")}) || !slices.Equal(turned, []api.Change{taken("a", "1"), added("b", "2")}) {
		t.Error(edits, turned)
	}
}

func TestP2Apply(t *testing.T) {
	a, l := of("a=1", "c=3", "e=5", "g=7"), []api.Edit{put("b", "2"), gone("a"), put("a", "0"), gone("c")}
	wasA, wasL := slices.Clone(a), slices.Clone(l)
	for _, n := range []int{0, 2} {
		l = slices.Clone(wasL)
		got, other := diff.Apply(a[:2], l[:n]), diff.Apply(a[:2], l[:n])
		clear(other[:cap(other)])
		if !slices.Equal(a, wasA) || !slices.Equal(l, wasL) {
			t.Error("changed", a, l)
		}
		clear(a)
		clear(l)
		if want := done(wasA[:2], wasL[:n]); !slices.Equal(got, want) {
			t.Error(got, want)
		}
		copy(a, wasA)
	}
}
