package refs_test

import (
	"iter"
	"math"
	"slices"
	"strings"
	"testing"

	"apograph/api"
	"apograph/refs"
)

const top = math.MaxUint64

func branch(name string, id uint64) api.Ref {
	return api.Ref{Name: name, Id: id}
}

func tag(name string, id uint64) api.Ref {
	return api.Ref{Name: name, Tag: true, Id: id}
}

// row is so many refs, the names rising, tags among them.
func row(many int) []api.Ref {
	var l []api.Ref
	for i := range many {
		name := "r" + string([]byte{'0' + byte(i/10), '0' + byte(i%10)})
		l = append(l, api.Ref{Name: name, Tag: i%3 == 1, Id: uint64(i) << 30})
	}
	return l
}

func makes(t *testing.T, x *refs.Table, r api.Ref, want api.Errno) {
	t.Helper()
	if e := x.Make(r); e != want {
		t.Fatalf("Make(%v): %d, not %d", r, e, want)
	}
}

func sets(t *testing.T, x *refs.Table, name string, old, id uint64, want api.Errno) {
	t.Helper()
	if e := x.Set(name, old, id); e != want {
		t.Fatalf("Set(%q, %d, %d): %d, not %d", name, old, id, e, want)
	}
}

func drops(t *testing.T, x *refs.Table, name string, want api.Errno) {
	t.Helper()
	if e := x.Drop(name); e != want {
		t.Fatalf("Drop(%q): %d, not %d", name, e, want)
	}
}

// stays does what must be refused, and asks for a Table that is as it was.
func stays(t *testing.T, x *refs.Table, do func()) {
	t.Helper()
	was := told(x.All())
	do()
	holds(t, x, was...)
}

func told(seq iter.Seq[api.Ref]) []api.Ref {
	var l []api.Ref
	for r := range seq {
		l = append(l, r)
	}
	return l
}

func getsNot(t *testing.T, x *refs.Table, names ...string) {
	t.Helper()
	for _, name := range names {
		if r, is := x.Get(name); is || r != (api.Ref{}) {
			t.Fatalf("Get(%q): %v, %v, not none", name, r, is)
		}
	}
}

// sorted are these by their names, told apart by nothing of the program itself.
func sorted(l []api.Ref) []api.Ref {
	l = slices.Clone(l)
	slices.SortFunc(l, func(a, b api.Ref) int { return strings.Compare(a.Name, b.Name) })
	return l
}

// holds asks for just these, in whichever order they are handed in.
func holds(t *testing.T, x *refs.Table, want ...api.Ref) {
	t.Helper()
	for _, r := range want {
		if got, is := x.Get(r.Name); !is || got != r {
			t.Fatalf("Get(%q): %v, %v, not %v", r.Name, got, is, r)
		}
	}
	if l := told(x.All()); !slices.Equal(l, sorted(want)) {
		t.Fatalf("All: %v, not %v", l, sorted(want))
	}
	if n := x.Len(); n != len(want) {
		t.Fatalf("Len: %d, not %d", n, len(want))
	}
}

// made is a Table of these, all of which must come.
func made(t *testing.T, l ...api.Ref) *refs.Table {
	t.Helper()
	x := refs.New(l...)
	holds(t, x, l...)
	return x
}

func TestExample(t *testing.T) {
	x := refs.New()
	makes(t, x, branch("main", 1), api.OK)
	makes(t, x, branch("main", 1), api.ErrThere)
	holds(t, x, branch("main", 1))
}

func TestP16_1NewNone(t *testing.T) {
	for _, x := range []*refs.Table{refs.New(), refs.New(nil...), refs.New([]api.Ref{}...), refs.New(row(3)[:0]...)} {
		if x == nil {
			t.Fatal("nil")
		}
		holds(t, x)
		getsNot(t, x, "", "main", "r00")
		makes(t, x, branch("main", 1), api.OK)
		holds(t, x, branch("main", 1))
	}
	holds(t, refs.New())
}

func TestP16_1New(t *testing.T) {
	made(t, branch("main", 0))
	made(t, tag("v1", 0))
	made(t, branch("main", top), tag("v1", top))
	made(t, tag("b", 3), branch("a", 2), branch("c", 1))
	for many := range 41 {
		l := row(many)
		made(t, l...)
		slices.Reverse(l)
		made(t, l...)
	}
}

// P16.1: of one name the first one stays, whatever the later ones are, and whatever stands between them.
func TestP16_1NewTwice(t *testing.T) {
	holds(t, refs.New(branch("a", 1), branch("a", 1)), branch("a", 1))
	holds(t, refs.New(branch("a", 1), branch("a", 2)), branch("a", 1))
	holds(t, refs.New(branch("a", 2), branch("a", 1)), branch("a", 2))
	holds(t, refs.New(branch("a", 1), tag("a", 1)), branch("a", 1))
	holds(t, refs.New(tag("a", 1), branch("a", 1)), tag("a", 1))
	holds(t, refs.New(tag("a", 0), tag("a", 5), branch("a", 6)), tag("a", 0))
	holds(t, refs.New(branch("a", 1), tag("b", 2), tag("a", 3), branch("b", 4), branch("c", 5), branch("a", 6)), branch("a", 1), tag("b", 2), branch("c", 5))
}

func TestP16_1NewNames(t *testing.T) {
	for _, name := range wrong() {
		holds(t, refs.New(branch(name, 1)))
		holds(t, refs.New(tag(name, 1), branch(name, 2)))
		holds(t, refs.New(branch("a", 1), tag(name, 2), branch("b", 3)), branch("a", 1), branch("b", 3))
		getsNot(t, refs.New(branch(name, 1)), name)
	}
}

// P16.1: of more than 40 the first 40 stay, those that are passed over for another fault not counted.
func TestP16_1NewMany(t *testing.T) {
	for _, many := range []int{41, 42, 45, 99} {
		l := row(many)
		holds(t, refs.New(l...), l[:40]...)
		slices.Reverse(l)
		holds(t, refs.New(l...), l[:40]...)
	}
	var mix []api.Ref
	for i, r := range row(45) {
		mix = append(mix, branch(wrong()[i%len(wrong())], 7), r, tag(r.Name, 8), branch("r00", 9))
	}
	holds(t, refs.New(mix...), row(40)...)
	l := append(append(row(39), row(39)...), branch("Bad", 1), branch("x", 1), branch("y", 2), tag("x", 3))
	holds(t, refs.New(l...), append(row(39), branch("x", 1))...)
}

func TestP16_1Get(t *testing.T) {
	x := made(t, append(row(12), branch("a", top), tag("a-", 0), branch("b2", 1<<32))...)
	getsNot(t, x, "", "r", "r0", "r000", "r12", "R00", " r00", "r00 ", "r00\x00", "\x00r00", "b", "b2-", "A", "é", strings.Repeat("a", 1<<16))
	getsNot(t, x, wrong()...)
	for range 2 {
		if r, is := x.Get("a"); !is || r != branch("a", top) {
			t.Fatal(r, is)
		}
	}
}

func TestP16_1Len(t *testing.T) {
	x := refs.New()
	for i, r := range row(45) {
		if n := x.Len(); n != min(i, 40) {
			t.Fatal(i, n)
		}
		x.Make(r)
	}
	for left := 39; left >= 0; left-- {
		drops(t, x, row(40)[left].Name, api.OK)
		drops(t, x, row(40)[left].Name, api.ErrRef)
		if n := x.Len(); n != left {
			t.Fatal(left, n)
		}
	}
}

// P16.1: byte by byte, however they came in: - is ahead of digits, those ahead of letters, and what is longer comes behind.
func TestP16_1AllRising(t *testing.T) {
	l := []api.Ref{
		branch("a", 9), tag("a-", 8), branch("a--", 7), branch("a-0", 6), tag("a-a", 5), branch("a0", 4), branch("a1", 3), branch("a10", 2), branch("a2", 1),
		tag("a9", 0), branch("aa", 10), branch("ab", 11), branch("b", 12), tag("b0", 13), branch("z", 14), branch(strings.Repeat("z", 19), 15), tag(strings.Repeat("z", 20), 16),
	}
	for turn := range l {
		for range 2 {
			x := made(t, append(slices.Clone(l[turn:]), l[:turn]...)...)
			if got := told(x.All()); !slices.Equal(got, sorted(l)) {
				t.Fatal(got)
			}
			slices.Reverse(l)
		}
	}
	if !slices.Equal(l, sorted(l)) {
		t.Fatal("the test's own list doesn't rise")
	}
}

// P5: left at each place, and gone through again, also by two at once.
func TestP16_1AllLeft(t *testing.T) {
	for _, many := range []int{0, 1, 2, 40} {
		want := row(many)
		seq := made(t, want...).All()
		for most := range many + 1 {
			var l []api.Ref
			for r := range seq {
				if len(l) == most {
					break
				}
				l = append(l, r)
			}
			if !slices.Equal(l, want[:most]) {
				t.Fatalf("%v, not %v", l, want[:most])
			}
		}
		at := 0
		for r := range seq {
			if l := told(seq); r != want[at] || !slices.Equal(l, want) {
				t.Fatal(r, l)
			}
			at++
		}
		if at != many {
			t.Fatal(at)
		}
	}
}

// P2: All tells what was there when it was called, and refs may come, go and change meanwhile.
func TestP16_1AllChanged(t *testing.T) {
	want := row(12)
	x := made(t, want...)
	seq := x.All()
	makes(t, x, branch("a", 1), api.OK)
	makes(t, x, branch("z", 1), api.OK)
	drops(t, x, "r05", api.OK)
	sets(t, x, "r00", 0, 9, api.OK)
	if l := told(seq); !slices.Equal(l, want) {
		t.Fatal(l)
	}
	at := 0
	for r := range seq {
		if r != want[at] {
			t.Fatal(r)
		}
		at++
		x.Make(branch("s"+r.Name, 5))
		sets(t, x, "z", uint64(at), uint64(at)+1, api.OK)
		x.Drop(want[len(want)-at].Name)
	}
	if at != len(want) {
		t.Fatal(at)
	}
	for r := range x.All() {
		drops(t, x, r.Name, api.OK)
	}
	holds(t, x)
	if l := told(seq); !slices.Equal(l, want) {
		t.Fatal(l)
	}
}
