package node_test

import (
	"math"
	"math/rand"
	"reflect"
	"slices"
	"strings"
	"testing"

	"apograph/api"
	"apograph/node"
)

// sizes are how many keys each row has, told key by key.
func sizes(level int, keys []string) []int {
	var l []int
	open := false
	for _, k := range keys {
		if !open {
			l = append(l, 0)
		}
		l[len(l)-1]++
		open = level >= 20 || !ends(level, k)
	}
	return l
}

// cut is l in rows of these sizes, each in memory of its own.
func cut[T any](l []T, sizes []int) [][]T {
	var rows [][]T
	for _, n := range sizes {
		rows = append(rows, append([]T(nil), l[:n]...))
		l = l[n:]
	}
	return rows
}

// splits asks for the rows of entries with these keys.
func splits(t *testing.T, keys ...string) {
	t.Helper()
	l := entries(keys...)
	rows := node.Split(l)
	if len(rows) != len(sizes(0, keys)) || len(rows) > 0 && !reflect.DeepEqual(rows, cut(l, sizes(0, keys))) {
		t.Fatalf("Split of %q: %#v", keys, rows)
	}
	if !slices.Equal(l, entries(keys...)) {
		t.Fatalf("Split of %q changed it", keys)
	}
}

// groups likewise of kids.
func groups(t *testing.T, level int, keys ...string) {
	t.Helper()
	l := kids(keys...)
	rows := node.Group(level, l)
	if len(rows) != len(sizes(level, keys)) || len(rows) > 0 && !reflect.DeepEqual(rows, cut(l, sizes(level, keys))) {
		t.Fatalf("Group of %q at level %d: %#v", keys, level, rows)
	}
	if !slices.Equal(l, kids(keys...)) {
		t.Fatalf("Group of %q changed it", keys)
	}
}

// all are levels at which kids are grouped, whether there are such nodes or not.
func all() []int {
	l := odd()
	for level := range 21 {
		l = append(l, level)
	}
	return l
}

func TestP9_4Sizes(t *testing.T) {
	e, m := pick(0, 3, true), pick(0, 3, false)
	for _, c := range []struct {
		keys []string
		want []int
	}{
		{nil, nil},
		{m[:1], []int{1}},
		{e[:1], []int{1}},
		{m, []int{3}},
		{e, []int{1, 1, 1}},
		{[]string{e[0], m[0], m[1]}, []int{1, 2}},
		{[]string{m[0], m[1], e[0]}, []int{3}},
		{[]string{m[0], e[0], m[1]}, []int{2, 1}},
		{[]string{m[0], e[0], m[1], e[1]}, []int{2, 2}},
	} {
		if got := sizes(0, c.keys); !slices.Equal(got, c.want) {
			t.Fatalf("sizes of %q: %v", c.keys, got)
		}
		splits(t, c.keys...)
		groups(t, 0, c.keys...)
	}
}

// P9.4: lists of nothing have no rows, nil or not, at any level.
func TestP9_4Nothing(t *testing.T) {
	if len(node.Split(nil)) != 0 || len(node.Split([]api.Entry{})) != 0 || len(node.Split(entries("a")[:0])) != 0 {
		t.Error("Split")
	}
	for _, level := range all() {
		if len(node.Group(level, nil)) != 0 || len(node.Group(level, []api.Kid{})) != 0 || len(node.Group(level, kids("a")[:0])) != 0 {
			t.Error("Group", level)
		}
	}
}

// P9.4: one, none, all, the first, the last.
func TestP9_4Ends(t *testing.T) {
	for _, level := range all() {
		m, e := pick(level, 6, false), pick(level, 6, true)
		for _, keys := range [][]string{
			m[:1], e[:1], m, e,
			append(e[:1:1], m...),
			append(m[:5:5], e[5]),
			append(append(e[:2:2], m...), e[2:]...),
			append(append(m[:2:2], e...), m[2:]...),
		} {
			groups(t, level, keys...)
			splits(t, keys...)
		}
	}
}

// P9.4: from level 20 on there is one row, though keys would End there by their sums.
func TestP9_4Top(t *testing.T) {
	for _, level := range []int{20, 21, 22, 100, 256, 275, 276, 1 << 32, math.MaxInt} {
		if rows := node.Group(level, kids(pick(level, 50, true)...)); len(rows) != 1 || len(rows[0]) != 50 {
			t.Errorf("level %d: %d rows", level, len(rows))
		}
	}
	for _, level := range []int{0, 1, 19, -1, -236, math.MinInt} {
		if rows := node.Group(level, kids(pick(level, 50, true)...)); len(rows) != 50 {
			t.Errorf("level %d: %d rows", level, len(rows))
		}
	}
}

// P9.4: whether the keys rise, or may be keys at all, is nothing to rows.
func TestP9_4AnyKeys(t *testing.T) {
	r := rand.New(rand.NewSource(4))
	for range 3000 {
		var keys []string
		for range r.Intn(30) {
			keys = append(keys, strings.Repeat(string([]byte{byte(r.Intn(256))}), r.Intn(r.Intn(60)+1)))
		}
		splits(t, keys...)
		groups(t, all()[r.Intn(len(all()))], keys...)
	}
}

// P9.4: values and Ids are nothing to rows, but stand in them.
func TestP9_4WholeParts(t *testing.T) {
	long := strings.Repeat("v", 500)
	k := pick(0, 1, true)[0]
	l := []api.Entry{{Key: k, Val: long}, {Key: k, Val: ""}}
	if rows := node.Split(l); len(rows) != 2 || rows[0][0] != l[0] || rows[1][0] != l[1] {
		t.Error(rows)
	}
	m := []api.Kid{{Last: "a"}, {Last: "a", Id: math.MaxUint64}}
	if rows := node.Group(20, m); len(rows) != 1 || !slices.Equal(rows[0], m) {
		t.Error(rows)
	}
}

// P9.4 is what P9.2 asks for: of keys that rise each row is a node that is right.
func TestP9_4Right(t *testing.T) {
	for level := range 21 {
		keys := append(pick(level, 200, true), pick(level, 300, false)...)
		slices.Sort(keys)
		if level == 0 {
			for _, row := range node.Split(entries(keys...)) {
				right(t, api.Node{Entries: row}, api.OK)
			}
			continue
		}
		for _, row := range node.Group(level, kids(keys...)) {
			right(t, api.Node{Level: level, Kids: row}, api.OK)
		}
	}
}

// apart changes a list, then row by row appends to it and changes it, and asks each time for the others as they were.
func apart[T any](t *testing.T, l []T, rows func([]T) [][]T, other T) {
	t.Helper()
	room := append(slices.Clone(l), other, other)
	got := rows(room[:len(l)])
	want := cut(l, lengths(got))
	if !reflect.DeepEqual(got, want) {
		t.Fatal(got, want)
	}
	for i := range room {
		room[i] = other
	}
	for i, row := range got {
		for behind := range row[len(row):cap(row)] {
			row[:cap(row)][len(row)+behind] = other
		}
		_ = append(row, other)
		if !reflect.DeepEqual(got, want) {
			t.Fatal("an append to row", i, "changed", got)
		}
	}
	for i, row := range got {
		for at := range row {
			row[at] = other
			want[i][at] = other
		}
		if !reflect.DeepEqual(got, want) {
			t.Fatal("a change of row", i, "changed", got)
		}
	}
}

func lengths[T any](rows [][]T) []int {
	var l []int
	for _, row := range rows {
		l = append(l, len(row))
	}
	return l
}

// P2, for rows.
func TestP9_4Memory(t *testing.T) {
	keys := append(pick(0, 20, true), pick(0, 40, false)...)
	slices.Sort(keys)
	for n := range len(keys) + 1 {
		apart(t, entries(keys[:n]...), node.Split, api.Entry{Key: "~", Val: "~"})
		for _, level := range []int{0, 1, 19, 20, 21, -1} {
			apart(t, kids(keys[:n]...), func(l []api.Kid) [][]api.Kid { return node.Group(level, l) }, api.Kid{Last: "~", Id: 99})
		}
	}
	// Two answers of one list share nothing, nor do they write to it.
	l := entries(keys...)
	one, two := node.Split(l), node.Split(l)
	for _, row := range one {
		clear(row)
	}
	if !reflect.DeepEqual(two, cut(l, lengths(two))) || !slices.Equal(l, entries(keys...)) {
		t.Error("answers share memory")
	}
}

func FuzzRows(f *testing.F) {
	f.Add(0, "a,b,c,d,e")
	f.Add(20, "a,b,c,d,e")
	f.Add(-1, "")
	f.Fuzz(func(t *testing.T, level int, list string) {
		keys := strings.Split(list, ",")
		splits(t, keys...)
		groups(t, level, keys...)
	})
}
