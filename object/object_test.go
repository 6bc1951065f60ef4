package object_test

import (
	"math"
	"slices"
	"strings"
	"testing"

	"apograph/api"
	"apograph/object"
)

const top = math.MaxUint64

// root is a right commit without Parents, child and merged ones with them.
func root() api.Commit {
	return api.Commit{Id: 1, Gen: 1, Root: 7, Text: "first"}
}

func child() api.Commit {
	return api.Commit{Id: 5, Parents: []uint64{3}, Gen: 2, Root: 8, Text: "second"}
}

func merged() api.Commit {
	return api.Commit{Id: 5, Parents: []uint64{3, 4}, Gen: 3, Root: 9, Text: "merge"}
}

// clone is a commit with Parents of its own.
func clone(c api.Commit) api.Commit {
	c.Parents = slices.Clone(c.Parents)
	return c
}

// like tells whether two commits are the same, told apart by nothing of the package itself.
func like(a, b api.Commit) bool {
	if len(a.Parents) != len(b.Parents) {
		return false
	}
	for i := range a.Parents {
		if a.Parents[i] != b.Parents[i] {
			return false
		}
	}
	a.Parents, b.Parents = nil, nil
	return [3]uint64{a.Id, a.Gen, a.Root} == [3]uint64{b.Id, b.Gen, b.Root} && a.Text == b.Text
}

// plain tells whether a text may be, by all bytes that may be in one.
func plain(s string) bool {
	const may = " !\"#$%&'()*+,-./0123456789:;<=>?@ABCDEFGHIJKLMNOPQRSTUVWXYZ[\\]^_`abcdefghijklmnopqrstuvwxyz{|}~"
	for _, c := range []byte(s) {
		if strings.IndexByte(may, c) < 0 {
			return false
		}
	}
	return len(s) <= 60
}

// meant is what Right must tell, by counting what is wrong.
func meant(c api.Commit) api.Errno {
	times, wrong := map[uint64]int{}, 0
	for _, p := range c.Parents {
		times[p]++
		wrong += times[p] - 1
		if p < 1 || p == c.Id || p > c.Id {
			wrong++
		}
	}
	switch len(c.Parents) {
	case 0:
		if c.Gen != 1 {
			wrong++
		}
	case 1, 2:
		if c.Gen == 0 || c.Gen == 1 {
			wrong++
		}
	default:
		wrong++
	}
	if c.Id < 1 || wrong > 0 {
		return api.ErrCommit
	}
	if !plain(c.Text) {
		return api.ErrText
	}
	return api.OK
}

// right asks Right for this, and for a commit that stays as it is.
func right(t *testing.T, c api.Commit, want api.Errno) {
	t.Helper()
	was := clone(c)
	if e := object.Right(c); e != want {
		t.Fatalf("Right(%v): %d, not %d", was, e, want)
	}
	if !like(c, was) {
		t.Fatalf("changed: %v, not %v", c, was)
	}
	if e := meant(c); e != want {
		t.Fatalf("meant(%v): %d, not %d", was, e, want)
	}
}

// may asks Text for this, and Right for what comes of it.
func may(t *testing.T, s string, want bool) {
	t.Helper()
	if is := object.Text(s); is != want {
		t.Fatalf("Text(%q): %v", s, is)
	}
	e := api.ErrText
	if want {
		e = api.OK
	}
	for _, c := range []api.Commit{root(), child(), merged()} {
		c.Text = s
		right(t, c, e)
	}
}

func TestP14_1TextSize(t *testing.T) {
	for _, c := range []string{"x", " ", "~", "0"} {
		for size := range 130 {
			may(t, strings.Repeat(c, size), size <= 60)
		}
	}
	for _, size := range []int{255, 256, 257, 256 + 60, 1 << 16, 1<<16 + 1, 1 << 20} {
		may(t, strings.Repeat("x", size), false)
	}
}

// P14.1: each byte alone, at the front, amid and at the end of texts of all sizes that may be.
func TestP14_1TextBytes(t *testing.T) {
	for c := range 256 {
		want := 32 <= c && c <= 126
		one := string([]byte{byte(c)})
		may(t, one, want)
		for size := range 60 {
			s := strings.Repeat("x", size)
			may(t, one+s, want)
			may(t, s[:size/2]+one+s[size/2:], want)
			may(t, s+one, want)
		}
		s := strings.Repeat("x", 60)
		may(t, one+s, false)
		may(t, s+one, false)
	}
}

// P14.1: each place of a text, with each byte that may just not be.
func TestP14_1TextPlaces(t *testing.T) {
	for at := range 60 {
		for c, want := range map[byte]bool{0: false, 31: false, 32: true, 126: true, 127: false, 128: false, 255: false} {
			b := []byte(strings.Repeat("y", 60))
			b[at] = c
			may(t, string(b), want)
		}
	}
}

func TestP14_1TextLetters(t *testing.T) {
	for s, want := range map[string]bool{
		"":                      true,
		"merge":                 true,
		" ":                     true,
		" two words, and ~!{}|": true,
		"a\x00":                 false,
		"a\tb":                  false,
		"a\n":                   false,
		"\r":                    false,
		"\x1b[0m":               false,
		"\x7f":                  false,
		"é":                     false,
		"e\u0301":               false,
		"\u00a0":                false,
		"\u2028":                false,
		"\u0120":                false,
		"\uff21":                false,
		"\U0001f600":            false,
		"\ufffd":                false,
		"\x80":                  false,
		"\xc3":                  false,
		"a\xffb":                false,
	} {
		may(t, s, want)
	}
	for n := 1; n < 61; n++ {
		may(t, strings.Repeat("é", n), false)
	}
}

func TestP14_1Right(t *testing.T) {
	for _, c := range []api.Commit{root(), child(), merged()} {
		right(t, c, api.OK)
	}
	right(t, api.Commit{}, api.ErrCommit)
	right(t, api.Commit{Id: 1, Gen: 1}, api.OK)
	right(t, api.Commit{Id: 1, Gen: 1, Parents: []uint64{}}, api.OK)
	right(t, api.Commit{Id: top, Gen: 1}, api.OK)
	right(t, api.Commit{Id: top, Gen: top, Parents: []uint64{top - 1, top - 2}, Root: top, Text: strings.Repeat("~", 60)}, api.OK)
}

func TestP14_1RightId(t *testing.T) {
	for _, c := range []api.Commit{root(), child(), merged()} {
		c.Id = 0
		right(t, c, api.ErrCommit)
		for _, id := range []uint64{5, 6, 1 << 31, 1 << 32, 1 << 63, top} {
			c.Id = id
			right(t, c, api.OK)
		}
	}
}

// with is a commit with this Id and these Parents, of which nothing else is wrong.
func with(id uint64, parents ...uint64) api.Commit {
	c := api.Commit{Id: id, Parents: parents, Gen: 2, Root: 1}
	if len(parents) == 0 {
		c.Gen = 1
	}
	return c
}

func TestP14_1RightMany(t *testing.T) {
	right(t, with(9), api.OK)
	right(t, with(9, 1), api.OK)
	right(t, with(9, 1, 2), api.OK)
	right(t, with(9, 1, 2, 3), api.ErrCommit)
	right(t, with(9, 3, 2, 1), api.ErrCommit)
	right(t, with(9, 1, 2, 3, 4), api.ErrCommit)
	var l []uint64
	for i := range 300 {
		l = append(l, uint64(i+1))
		want := api.OK
		if len(l) > 2 {
			want = api.ErrCommit
		}
		right(t, with(1000, l...), want)
	}
	if e := object.Right(with(top, make([]uint64, 1<<20)...)); e != api.ErrCommit {
		t.Error(e)
	}
}

func TestP14_1RightParent(t *testing.T) {
	for _, id := range []uint64{5, 127, 128, 1 << 31, 1 << 32, 1 << 63, top} {
		for p, want := range map[uint64]api.Errno{0: api.ErrCommit, 1: api.OK, 3: api.OK, id - 2: api.OK, id - 1: api.OK, id: api.ErrCommit} {
			right(t, with(id, p), want)
			right(t, with(id, p, 2), want)
			right(t, with(id, 2, p), want)
			right(t, with(id, p, 2, 4), api.ErrCommit)
		}
		for _, above := range []uint64{id + 1, id + 2, id + 100, id * 2, top} {
			if above < id {
				continue // wrapped round
			}
			right(t, with(id, above), api.ErrCommit)
			right(t, with(id, above, 1), api.ErrCommit)
			right(t, with(id, 1, above), api.ErrCommit)
		}
	}
	// Of the first commit there is nothing below that isn't 0.
	for _, p := range []uint64{0, 1, 2, top} {
		right(t, with(1, p), api.ErrCommit)
	}
	right(t, with(2, 1), api.OK)
}

func TestP14_1RightAlike(t *testing.T) {
	for _, p := range []uint64{0, 1, 2, 8, 9, 10, top} {
		right(t, with(9, p, p), api.ErrCommit)
	}
	right(t, with(top, top-1, top-1), api.ErrCommit)
	right(t, with(9, 7, 8), api.OK)
	right(t, with(9, 8, 7), api.OK) // they needn't rise
	right(t, with(3, 2, 1), api.OK)
	right(t, with(1<<33, 1, 1<<32+1), api.OK) // alike but for high bits
}

func TestP14_1RightGen(t *testing.T) {
	for _, gen := range []uint64{0, 1, 2, 3, 127, 1 << 32, 1<<32 + 1, 1 << 63, top - 1, top} {
		none, some := api.ErrCommit, api.OK
		if gen == 1 {
			none = api.OK
		}
		if gen < 2 {
			some = api.ErrCommit
		}
		c := root()
		c.Gen = gen
		right(t, c, none)
		c.Parents = []uint64{}
		right(t, c, none)
		for _, c := range []api.Commit{child(), merged()} {
			c.Gen = gen
			right(t, c, some)
		}
	}
}

// P14.1: a Root may be any number; a Gen isn't held against the Id.
func TestP14_1RightRoot(t *testing.T) {
	for _, c := range []api.Commit{root(), child(), merged()} {
		for _, n := range []uint64{0, 1, c.Id, 1 << 32, 1 << 63, top} {
			c.Root = n
			right(t, c, api.OK)
		}
	}
	right(t, api.Commit{Id: 2, Parents: []uint64{1}, Gen: 99}, api.OK)
}

// P14.1, P4: whatever else is wrong, a text that may not be is told last.
func TestP14_1RightFirst(t *testing.T) {
	for _, text := range []string{"\n", strings.Repeat("x", 61), "é"} {
		for _, c := range []api.Commit{
			{}, {Gen: 1}, {Id: 1}, {Id: 1, Gen: 2}, {Id: 2, Parents: []uint64{2}, Gen: 2}, {Id: 2, Parents: []uint64{0}, Gen: 2},
			{Id: 2, Parents: []uint64{3}, Gen: 2}, {Id: 2, Parents: []uint64{1}, Gen: 1}, {Id: 5, Parents: []uint64{1, 1}, Gen: 2},
			{Id: 5, Parents: []uint64{1, 2, 3}, Gen: 2}, {Parents: []uint64{0, 0, 0}}, {Id: 5, Parents: []uint64{1, 2}},
		} {
			right(t, c, api.ErrCommit)
			c.Text = text
			right(t, c, api.ErrCommit)
		}
		for _, c := range []api.Commit{root(), child(), merged()} {
			c.Text = text
			right(t, c, api.ErrText)
		}
	}
}

// parentLists are all lists of at most so many of these.
func parentLists(most int, of ...uint64) [][]uint64 {
	all, last := [][]uint64{nil}, [][]uint64{nil}
	for range most {
		var next [][]uint64
		for _, l := range last {
			for _, p := range of {
				next = append(next, append(slices.Clone(l), p))
			}
		}
		all, last = append(all, next...), next
	}
	return all
}

// every calls f with commits of all few numbers and texts, right ones and others.
func every(f func(api.Commit)) {
	lists := parentLists(3, 0, 1, 2, 4, 5, top-1, top)
	for _, id := range []uint64{0, 1, 2, 5, top} {
		for _, l := range lists {
			for _, gen := range []uint64{0, 1, 2, top} {
				for _, n := range []uint64{0, 300, top} {
					for _, text := range []string{"", "merge", strings.Repeat("x", 60), strings.Repeat("x", 61), "\x1f", "\x7f"} {
						f(api.Commit{Id: id, Parents: l, Gen: gen, Root: n, Text: text})
					}
				}
			}
		}
	}
}

func TestP14_1RightEvery(t *testing.T) {
	told := map[api.Errno]int{}
	every(func(c api.Commit) {
		e := meant(c)
		right(t, c, e)
		told[e]++
	})
	for _, e := range []api.Errno{api.OK, api.ErrCommit, api.ErrText} {
		if told[e] < 500 {
			t.Error("too few", e, told[e])
		}
	}
}

// P2: what lies behind the Parents' length isn't looked at.
func TestP14_1RightBehind(t *testing.T) {
	l := []uint64{3, 4, 0, 4}
	right(t, with(5, l[:2]...), api.OK)
	right(t, with(5, l[:1]...), api.OK)
	right(t, with(5, l[:3]...), api.ErrCommit)
	c := root()
	c.Parents = l[:0]
	right(t, c, api.OK)
	if !slices.Equal(l, []uint64{3, 4, 0, 4}) {
		t.Error("changed", l)
	}
}

// same asks Same for this, both ways, and for commits that stay as they are.
func same(t *testing.T, a, b api.Commit, want bool) {
	t.Helper()
	x, y := clone(a), clone(b)
	if object.Same(a, b) != want || object.Same(b, a) != want {
		t.Fatalf("Same of %v and %v: not %v", a, b, want)
	}
	if !like(a, x) || !like(b, y) {
		t.Fatalf("changed: %v, %v", a, b)
	}
}

// others are commits that differ from c in one part alone.
func others(c api.Commit) []api.Commit {
	var l []api.Commit
	but := func(change func(*api.Commit)) {
		d := clone(c)
		change(&d)
		l = append(l, d)
	}
	for _, bit := range []uint64{1, 1 << 31, 1 << 32, 1 << 63} {
		but(func(d *api.Commit) { d.Id ^= bit })
		but(func(d *api.Commit) { d.Gen ^= bit })
		but(func(d *api.Commit) { d.Root ^= bit })
		for i := range c.Parents {
			but(func(d *api.Commit) { d.Parents[i] ^= bit })
		}
	}
	but(func(d *api.Commit) { d.Parents = append(d.Parents, 0) })
	but(func(d *api.Commit) { d.Parents = append(d.Parents, 2) })
	but(func(d *api.Commit) { d.Parents = append([]uint64{2}, d.Parents...) })
	if len(c.Parents) > 0 {
		but(func(d *api.Commit) { d.Parents = d.Parents[1:] })
		but(func(d *api.Commit) { d.Parents = nil })
	}
	if len(c.Parents) == 2 {
		but(func(d *api.Commit) { d.Parents = d.Parents[:1] })
		but(func(d *api.Commit) { slices.Reverse(d.Parents) })
	}
	for _, s := range []string{"", " ", "x", c.Text + " ", c.Text + "\x00", " " + c.Text, strings.ToUpper(c.Text) + "!"} {
		if s != c.Text {
			but(func(d *api.Commit) { d.Text = s })
		}
	}
	return l
}

// P14.2: each part alone, of commits that are right and of ones that aren't.
func TestP14_2Same(t *testing.T) {
	odd := api.Commit{Parents: []uint64{0, 0, top, 9}, Gen: 0, Text: "\n\xff" + strings.Repeat("x", 100)}
	for _, c := range []api.Commit{root(), child(), merged(), {}, odd} {
		same(t, c, c, true)
		same(t, c, clone(c), true)
		for _, d := range others(c) {
			same(t, c, d, false)
			same(t, d, clone(d), true)
		}
	}
}

// P14.2, P3: no Parents, told as nil and as none.
func TestP14_2SameNone(t *testing.T) {
	l := []uint64{3, 4}
	for _, c := range []api.Commit{root(), {}} {
		none, empty := c, c
		none.Parents, empty.Parents = []uint64{}, l[:0]
		same(t, c, none, true)
		same(t, c, empty, true)
		same(t, none, empty, true)
	}
}

// P2: what lies behind the Parents' length isn't looked at.
func TestP14_2SameBehind(t *testing.T) {
	a, b := []uint64{3, 4, 9}, []uint64{3, 4, 8}
	same(t, with(5, a[:2]...), with(5, b[:2]...), true)
	same(t, with(5, a[:1]...), with(5, b[:2]...), false)
	same(t, with(5, a...), with(5, b...), false)
}
