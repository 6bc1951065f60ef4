package extent_test

import (
	"fmt"
	"iter"
	"math"
	"slices"
	"strings"
	"testing"

	"apograph/api"
	"apograph/extent"
)

const most = 16384

// span is a short name for one.
func span(start, pages int) api.Span {
	return api.Span{Start: start, Pages: pages}
}

// list is all that a range tells.
func list(seq iter.Seq[api.Span]) []api.Span {
	var l []api.Span
	for s := range seq {
		l = append(l, s)
	}
	return l
}

// rows are the spans of a text's pages of the kind c, the first page of which is from.
func rows(from int, text string, c byte) []api.Span {
	var l []api.Span
	for i := range len(text) {
		if text[i] != c {
			continue
		}
		if i > 0 && text[i-1] == c {
			l[len(l)-1].Pages++
		} else {
			l = append(l, span(from+i, 1))
		}
	}
	return l
}

// longest is the greatest number of pages of a row.
func longest(l []api.Span) int {
	n := 0
	for _, s := range l {
		n = max(n, s.Pages)
	}
	return n
}

// spans asks for the rows that are free, and for what Count and Largest make of them.
func spans(t *testing.T, f *extent.Free, want ...api.Span) {
	t.Helper()
	if got := list(f.Spans()); !slices.Equal(got, want) {
		t.Fatalf("Spans: %v, not %v", got, want)
	}
	n := 0
	for _, s := range want {
		n += s.Pages
	}
	if got := f.Count(); got != n {
		t.Fatalf("Count: %d, not %d", got, n)
	}
	if got := f.Largest(); got != longest(want) {
		t.Fatalf("Largest: %d, not %d", got, longest(want))
	}
}

// is asks for each page: in the text one that is free is '.', one that is taken '#'; from is the first one.
func is(t *testing.T, f *extent.Free, from int, text string) {
	t.Helper()
	spans(t, f, rows(from, text, '.')...)
	for i := -1; i <= len(text); i++ {
		want := i >= 0 && i < len(text) && text[i] == '.'
		if f.Has(span(from+i, 1)) != want {
			t.Fatalf("Has of page %d: not %v, in %q", from+i, want, text)
		}
	}
}

// laid is a Free whose pages are the text's, the first of which is from.
func laid(t *testing.T, from int, text string) *extent.Free {
	t.Helper()
	f := extent.New(from, from+len(text))
	for _, s := range rows(from, text, '#') {
		claims(t, f, s, true)
	}
	is(t, f, from, text)
	return f
}

func takes(t *testing.T, f *extent.Free, n, start int) {
	t.Helper()
	if got, ok := f.Take(n); !ok || got != start {
		t.Fatalf("Take(%d): %d, %v, not %d, true", n, got, ok, start)
	}
}

func takesNone(t *testing.T, f *extent.Free, n int) {
	t.Helper()
	if got, ok := f.Take(n); ok || got != 0 {
		t.Fatalf("Take(%d): %d, %v, not 0, false", n, got, ok)
	}
}

func claims(t *testing.T, f *extent.Free, s api.Span, want bool) {
	t.Helper()
	if f.Claim(s) != want {
		t.Fatalf("Claim(%v): not %v", s, want)
	}
}

func gives(t *testing.T, f *extent.Free, s api.Span, want bool) {
	t.Helper()
	if f.Give(s) != want {
		t.Fatalf("Give(%v): not %v", s, want)
	}
}

// odd is numbers at the ends of what an int, or one of 32 bits, can be.
func odd() []int {
	return []int{
		math.MinInt, math.MinInt + 1, math.MinInt / 2, math.MinInt32, -1 << 32, -most, -1,
		most + 1, 1 << 32, 1<<32 + 1, math.MaxInt32, math.MaxInt / 2, math.MaxInt/2 + 1, math.MaxInt - 1, math.MaxInt,
	}
}

// never is spans that no Free with pages from 4 up to 12 has whole, whatever is free there.
func never() []api.Span {
	l := []api.Span{
		span(4, 0), span(11, 0), span(4, -1), span(8, -1), span(12, -1), span(12, -8), span(0, 0), span(12, 0),
		span(3, 1), span(3, 2), span(3, 9), span(0, 1), span(0, 12), span(-1, 1), span(-1, 6), span(0, 4),
		span(12, 1), span(11, 2), span(4, 9), span(8, 5), span(13, 1), span(most, 1), span(most-1, 1),
	}
	for _, n := range odd() {
		for at := range 14 {
			l = append(l, span(at, n), span(n, at))
		}
		for _, m := range odd() {
			l = append(l, span(n, m))
		}
		l = append(l, span(math.MaxInt-n, n), span(n+1, math.MaxInt-n))
	}
	return l
}

func TestExamples(t *testing.T) {
	f := extent.New(1, 9)
	takes(t, f, 3, 1)
	takes(t, f, 2, 4)
	gives(t, f, span(1, 3), true)
	spans(t, f, span(1, 3), span(6, 3))
	is(t, f, 1, "...##...")
}

func TestP6_1New(t *testing.T) {
	for _, c := range []struct {
		from, n int
		want    []api.Span
	}{
		{0, 1, []api.Span{span(0, 1)}},
		{1, 9, []api.Span{span(1, 8)}},
		{0, 9, []api.Span{span(0, 9)}},
		{8, 9, []api.Span{span(8, 1)}},
		{9, 9, nil},
		{10, 9, nil},
		{0, 0, nil},
		{1, 0, nil},
		{1, 1, nil},
		{-1, 9, []api.Span{span(0, 9)}},
		{-9, 1, []api.Span{span(0, 1)}},
		{-1, 0, nil},
		{-9, -1, nil},
		{-1, -9, nil},
		{0, -1, nil},
		{0, most - 1, []api.Span{span(0, most-1)}},
		{0, most, []api.Span{span(0, most)}},
		{0, most + 1, []api.Span{span(0, most)}},
		{1, most, []api.Span{span(1, most-1)}},
		{1, 2 * most, []api.Span{span(1, most-1)}},
		{most - 1, most, []api.Span{span(most-1, 1)}},
		{most - 1, most + 1, []api.Span{span(most-1, 1)}},
		{most, most + 1, nil},
		{most, most, nil},
		{most + 1, most + 9, nil},
		{-1, most + 1, []api.Span{span(0, most)}},
		{math.MinInt, math.MaxInt, []api.Span{span(0, most)}},
		{math.MaxInt, math.MinInt, nil},
		{math.MinInt, math.MinInt, nil},
		{math.MaxInt, math.MaxInt, nil},
		{math.MaxInt - 1, math.MaxInt, nil},
		{math.MinInt, math.MinInt + 1, nil},
		{math.MinInt, 3, []api.Span{span(0, 3)}},
		{3, math.MaxInt, []api.Span{span(3, most-3)}},
		{3, math.MinInt, nil},
		{0, 1 << 32, []api.Span{span(0, most)}},
		{1 << 32, 1<<32 + 9, nil},
		{-1 << 32, 2, []api.Span{span(0, 2)}},
	} {
		f := extent.New(c.from, c.n)
		if f == nil {
			t.Fatalf("New(%d, %d): nil", c.from, c.n)
		}
		spans(t, f, c.want...)
		for _, s := range c.want {
			hasEnds(t, f, s)
		}
	}
}

// hasEnds asks whether just the pages of a row are free.
func hasEnds(t *testing.T, f *extent.Free, s api.Span) {
	t.Helper()
	for _, c := range []struct {
		s    api.Span
		want bool
	}{
		{s, true},
		{span(s.Start, 1), true},
		{span(s.Start+s.Pages-1, 1), true},
		{span(s.Start-1, 1), false},
		{span(s.Start-1, s.Pages+1), false},
		{span(s.Start+s.Pages, 1), false},
		{span(s.Start, s.Pages+1), false},
	} {
		if f.Has(c.s) != c.want {
			t.Fatalf("Has(%v): not %v", c.s, c.want)
		}
	}
}

// TestP6_1All: there are no pages but those of New: none else can be given.
func TestP6_1All(t *testing.T) {
	for _, c := range []struct{ from, n, first, end int }{
		{-5, 3, 0, 3}, {2, most + 5, 2, most}, {3, 5, 3, 5}, {most - 2, math.MaxInt, most - 2, most},
	} {
		f := extent.New(c.from, c.n)
		takes(t, f, c.end-c.first, c.first)
		gives(t, f, span(c.first-1, 1), false)
		gives(t, f, span(c.end, 1), false)
		spans(t, f)
		gives(t, f, span(c.end-1, 1), true)
		gives(t, f, span(c.first, 1), true)
		if f.Count() != 2 {
			t.Fatalf("Count: %d, not 2", f.Count())
		}
	}
	for _, c := range []struct{ from, n int }{{5, 5}, {9, 5}, {-3, 0}, {most, most + 9}} {
		f := extent.New(c.from, c.n)
		for _, at := range []int{c.from - 1, c.from, c.n - 1, c.n, 0} {
			gives(t, f, span(at, 1), false)
			claims(t, f, span(at, 1), false)
		}
		spans(t, f)
	}
}

func TestP6_1Spans(t *testing.T) {
	for _, text := range []string{
		"", ".", "#", "..", ".#", "#.", "##", "........", "########", ".######.", "#......#", "..##..##", "##..##..", ".#.#.#.#", "#.#.#.#.",
		"...#..#.", ".#..#...", "#..#",
	} {
		for _, from := range []int{0, 1, 5, most - len(text)} {
			laid(t, from, text)
		}
	}
}

// TestP6_1SpansTold: what is told may be left at any time and gone through again.
func TestP6_1SpansTold(t *testing.T) {
	f := laid(t, 2, "..#...#.")
	want := []api.Span{span(2, 2), span(5, 3), span(9, 1)}
	seq := f.Spans()
	for range 2 {
		if got := list(seq); !slices.Equal(got, want) {
			t.Fatalf("told again: %v, not %v", got, want)
		}
	}
	for left := range len(want) + 1 {
		var got []api.Span
		for s := range seq {
			if len(got) == left {
				break
			}
			got = append(got, s)
		}
		if !slices.Equal(got, want[:left]) {
			t.Fatalf("left behind %d: %v", left, got)
		}
	}
	for range seq {
		for s := range seq {
			if s != want[0] {
				t.Fatalf("told amid itself: %v", s)
			}
			break
		}
	}
	calls := 0
	seq(func(api.Span) bool { calls++; return false })
	if calls != 1 {
		t.Fatalf("told %d more behind the end", calls-1)
	}
	is(t, f, 2, "..#...#.")
}

// TestP6_1SpansChanged: what was answered ahead of a change doesn't share what is changed.
func TestP6_1SpansChanged(t *testing.T) {
	f := laid(t, 0, "..#..#..")
	seq, was := f.Spans(), []api.Span{span(0, 2), span(3, 2), span(6, 2)}
	takes(t, f, 2, 0)
	gives(t, f, span(5, 1), true)
	is(t, f, 0, "###.....")
	if got := list(seq); !slices.Equal(got, was) {
		t.Fatalf("told behind changes: %v, not %v", got, was)
	}
	var got []api.Span
	f = laid(t, 0, "..#..#..")
	for s := range f.Spans() {
		got = append(got, s)
		claims(t, f, s, true)
	}
	if !slices.Equal(got, was) {
		t.Fatalf("told amid changes: %v, not %v", got, was)
	}
	is(t, f, 0, "########")
	for s := range f.Spans() {
		t.Fatalf("told of none: %v", s)
	}
}

func TestP6_1CountAndLargest(t *testing.T) {
	for _, c := range []struct {
		text           string
		count, largest int
	}{
		{"", 0, 0}, {"###", 0, 0}, {".", 1, 1}, {"...", 3, 3}, {"#..#", 2, 2}, {".#..#...", 6, 3}, {"...#..#.", 6, 3}, {".#...#..", 6, 3},
		{"..#..", 4, 2}, {"#...##...#.", 7, 3}, {".#.#.", 3, 1},
	} {
		f := laid(t, 7, c.text)
		if f.Count() != c.count || f.Largest() != c.largest {
			t.Fatalf("%q: %d, %d, not %d, %d", c.text, f.Count(), f.Largest(), c.count, c.largest)
		}
	}
}

// each goes through all texts of n pages.
func each(n int, f func(string)) {
	for bits := range 1 << n {
		text := []byte(strings.Repeat(".", n))
		for i := range n {
			if bits>>i&1 == 1 {
				text[i] = '#'
			}
		}
		f(string(text))
	}
}

// all tells whether a text has s whole, and each page of it is of the kind c.
func all(from int, text string, s api.Span, c byte) bool {
	low := s.Start - from
	if s.Pages < 1 || low < 0 || low > len(text) || s.Pages > len(text)-low {
		return false
	}
	return text[low:low+s.Pages] == strings.Repeat(string(c), s.Pages)
}

// near is all spans about the pages from `from` on, n of them.
func near(from, n int) []api.Span {
	var l []api.Span
	for at := from - 2; at <= from+n+1; at++ {
		for pages := -1; pages <= n+2; pages++ {
			l = append(l, span(at, pages))
		}
	}
	return l
}

// with is a text with other bytes of the kind c in the place of s.
func with(from int, text string, s api.Span, c byte) string {
	low := s.Start - from
	return text[:low] + strings.Repeat(string(c), s.Pages) + text[low+s.Pages:]
}

func TestP6_1Has(t *testing.T) {
	for _, from := range []int{0, 1, 3} {
		each(6, func(text string) {
			f := laid(t, from, text)
			for _, s := range near(from, 6) {
				if got, want := f.Has(s), all(from, text, s, '.'); got != want {
					t.Fatalf("%q from %d: Has(%v): %v", text, from, s, got)
				}
			}
			is(t, f, from, text)
		})
	}
}

// TestP6_1HasNever, likewise Claim and Give: no pages, pages that there aren't, sums that wrap round.
func TestP6_1HasNever(t *testing.T) {
	for _, text := range []string{"........", "########", "..##..##", "##..##..", "#.#.#.#."} {
		f := laid(t, 4, text)
		for _, s := range never() {
			if f.Has(s) {
				t.Fatalf("%q: Has(%v)", text, s)
			}
			claims(t, f, s, false)
			gives(t, f, s, false)
		}
		is(t, f, 4, text)
	}
	for _, f := range []*extent.Free{extent.New(0, most), extent.New(1, most)} {
		count := f.Count()
		for _, n := range odd() {
			for _, s := range []api.Span{span(n, 1), span(0, n), span(1, n), span(n, n), span(most-1, n), span(n, math.MaxInt), span(math.MaxInt, n), span(n, 1-n), span(n, most-n)} {
				if f.Has(s) || f.Claim(s) || f.Give(s) {
					t.Fatalf("%v", s)
				}
			}
		}
		if f.Count() != count {
			t.Fatalf("Count: %d, not %d", f.Count(), count)
		}
	}
}

func TestP6_2Take(t *testing.T) {
	for _, c := range []struct {
		text string
		n    int
		want string
	}{
		{"....", 1, "#..."},
		{"....", 3, "###."},
		{"....", 4, "####"},
		{"..#..", 1, "#.#.."},
		{"..#..", 2, "###.."},
		{"..#...", 3, "..####"},
		{"..#....", 3, "..####."},
		{".#...#..", 2, ".###.#.."},
		{".#...#..", 3, ".#####.."},
		{".#...#..", 1, "##...#.."},
		{".#..#...#....", 4, ".#..#...#####"},
		{"#.#.", 1, "###."},
		{"#...", 3, "####"},
		{"...#...#.", 3, "####...#."},
	} {
		for _, from := range []int{0, 1, 9, most - len(c.text)} {
			f := laid(t, from, c.text)
			at := 0
			for c.text[at] == c.want[at] {
				at++
			}
			takes(t, f, c.n, from+at)
			is(t, f, from, c.want)
		}
	}
}

func TestP6_2TakeNone(t *testing.T) {
	for _, c := range []struct {
		text string
		n    int
	}{
		{"", 1}, {"####", 1}, {"....", 5}, {"..#..", 3}, {"..#..", 4}, {"..#..", 5}, {"..#...#..", 4}, {".#.#.#.", 2},
	} {
		for _, n := range append(odd(), 0, c.n, c.n+1, most, most+1) {
			f := laid(t, 3, c.text)
			takesNone(t, f, n)
			is(t, f, 3, c.text)
		}
	}
	takesNone(t, extent.New(0, most), most+1)
	takesNone(t, extent.New(1, most), most)
	takesNone(t, extent.New(0, most), 0)
	takes(t, extent.New(0, most), most, 0)
}

func TestP6_2TakeUntilNothing(t *testing.T) {
	f := extent.New(1, 301)
	next := 1
	for n := 1; next+n <= 301; n++ {
		takes(t, f, n, next)
		next += n
		if f.Count() != 301-next {
			t.Fatalf("Count: %d, not %d", f.Count(), 301-next)
		}
	}
	for ; next < 301; next++ {
		takes(t, f, 1, next)
	}
	spans(t, f)
	takesNone(t, f, 1)
	takesNone(t, f, 0)
	gives(t, f, span(40, 2), true)
	takesNone(t, f, 3)
	takes(t, f, 2, 40)
	takesNone(t, f, 1)
	spans(t, f)
}

func TestP6_2Claim(t *testing.T) {
	for _, from := range []int{0, 1, 3} {
		each(6, func(text string) {
			for _, s := range near(from, 6) {
				f, want := laid(t, from, text), text
				can := all(from, text, s, '.')
				claims(t, f, s, can)
				if can {
					want = with(from, text, s, '#')
				}
				is(t, f, from, want)
				claims(t, f, s, false)
				is(t, f, from, want)
			}
		})
	}
}

// TestP6_2Give goes by all texts: next to rows on one side, on the other, on both, across what is free.
func TestP6_2Give(t *testing.T) {
	for _, from := range []int{0, 1, 3} {
		each(6, func(text string) {
			for _, s := range near(from, 6) {
				f, want := laid(t, from, text), text
				can := all(from, text, s, '#')
				gives(t, f, s, can)
				if can {
					want = with(from, text, s, '.')
				}
				is(t, f, from, want)
				gives(t, f, s, false)
				is(t, f, from, want)
			}
		})
	}
}

func TestP6_2GiveJoins(t *testing.T) {
	for _, c := range []struct {
		text string
		s    api.Span
		want []api.Span
	}{
		{"########", span(4, 2), []api.Span{span(4, 2)}},
		{"..######", span(4, 2), []api.Span{span(2, 4)}},
		{"######..", span(6, 2), []api.Span{span(6, 4)}},
		{"..####..", span(4, 4), []api.Span{span(2, 8)}},
		{"..####..", span(4, 3), []api.Span{span(2, 5), span(8, 2)}},
		{"..####..", span(5, 3), []api.Span{span(2, 2), span(5, 5)}},
		{"..####..", span(5, 2), []api.Span{span(2, 2), span(5, 2), span(8, 2)}},
		{".#.##.#.", span(5, 2), []api.Span{span(2, 1), span(4, 4), span(9, 1)}},
		{".#.#.#.#", span(9, 1), []api.Span{span(2, 1), span(4, 1), span(6, 1), span(8, 2)}},
		{"#.#.#.#.", span(2, 1), []api.Span{span(2, 2), span(5, 1), span(7, 1), span(9, 1)}},
	} {
		f := laid(t, 2, c.text)
		gives(t, f, c.s, true)
		spans(t, f, c.want...)
		for _, s := range c.want {
			if !f.Has(s) {
				t.Fatalf("%q: no row %v", c.text, s)
			}
		}
		takes(t, f, longest(c.want), c.want[slices.IndexFunc(c.want, func(s api.Span) bool { return s.Pages == longest(c.want) })].Start)
	}
}

// TestP6_2InPart: what was taken at once may be given back in parts, and claimed across.
func TestP6_2InPart(t *testing.T) {
	f := extent.New(1, 11)
	takes(t, f, 6, 1)
	is(t, f, 1, "######....")
	gives(t, f, span(3, 2), true)
	is(t, f, 1, "##..##....")
	gives(t, f, span(2, 2), false)
	gives(t, f, span(4, 2), false)
	gives(t, f, span(1, 6), false)
	claims(t, f, span(2, 2), false)
	claims(t, f, span(4, 2), false)
	claims(t, f, span(4, 1), true)
	is(t, f, 1, "##.###....")
	takes(t, f, 3, 7)
	is(t, f, 1, "##.######.")
	gives(t, f, span(6, 2), true)
	is(t, f, 1, "##.##..##.")
	claims(t, f, span(7, 1), true)
	gives(t, f, span(7, 3), true)
	is(t, f, 1, "##.##.....")
	gives(t, f, span(1, 2), true)
	gives(t, f, span(4, 2), true)
	is(t, f, 1, "..........")
	spans(t, f, span(1, 10))
}

func TestP6_2Copy(t *testing.T) {
	f := laid(t, 2, "..#..#..")
	c := f.Copy()
	if c == nil || c == f {
		t.Fatal("not one of its own")
	}
	is(t, c, 2, "..#..#..")
	takes(t, f, 2, 2)
	claims(t, f, span(6, 1), true)
	gives(t, f, span(7, 1), true)
	is(t, f, 2, "###.#...")
	is(t, c, 2, "..#..#..")
	gives(t, c, span(4, 1), true)
	takes(t, c, 5, 2)
	is(t, c, 2, "######..")
	is(t, f, 2, "###.#...")
	gives(t, c, span(1, 1), false)
	gives(t, c, span(9, 2), false)
	gives(t, c, span(2, 6), true)
	is(t, c, 2, "........")
	d := c.Copy().Copy()
	takes(t, d, 8, 2)
	is(t, c, 2, "........")
	is(t, d, 2, "########")
}

// TestP6_2CopyChanged: changes of either one in the midst of rows, where memory that is shared would tell.
func TestP6_2CopyChanged(t *testing.T) {
	each(6, func(text string) {
		for _, s := range near(1, 6) {
			for _, change := range []func(*extent.Free){
				func(f *extent.Free) { f.Claim(s) },
				func(f *extent.Free) { f.Give(s) },
				func(f *extent.Free) { f.Take(s.Pages) },
			} {
				f := laid(t, 1, text)
				c := f.Copy()
				change(c)
				is(t, f, 1, text)
				c = f.Copy()
				change(f)
				is(t, c, 1, text)
			}
		}
	})
}

// TestP6_2CopyOfNone: one without pages is still one that somebody made.
func TestP6_2CopyOfNone(t *testing.T) {
	for _, f := range []*extent.Free{extent.New(3, 3), extent.New(0, 0), extent.New(9, -9)} {
		c := f.Copy()
		if c == nil || c == f {
			t.Fatal("no Copy of one without pages")
		}
		spans(t, c)
		takesNone(t, c, 1)
		gives(t, c, span(0, 1), false)
	}
}

func TestP6_2NobodyMade(t *testing.T) {
	for _, f := range []*extent.Free{nil, {}, new(extent.Free)} {
		for range 2 {
			for _, n := range append(odd(), 0, 1, 2, most) {
				takesNone(t, f, n)
				for _, s := range append(never(), span(0, 1), span(n, 1), span(0, n), span(n, n), span(1, 1)) {
					claims(t, f, s, false)
					gives(t, f, s, false)
					if f.Has(s) {
						t.Fatalf("Has(%v)", s)
					}
				}
			}
			seq := f.Spans()
			for range 2 {
				for s := range seq {
					t.Fatalf("told: %v", s)
				}
			}
			spans(t, f)
			if c := f.Copy(); c != nil {
				t.Fatalf("Copy: %v", c)
			}
		}
	}
}

// meant is a Free as it is meant: each page by itself.
type meant struct {
	from int
	text string
}

func made(from, n int) meant {
	from, n = max(from, 0), min(n, most)
	return meant{from, strings.Repeat(".", max(0, n-from))}
}

func (m *meant) take(n int) (int, bool) {
	if n < 1 {
		return 0, false
	}
	for _, row := range rows(m.from, m.text, '.') {
		if row.Pages >= n {
			m.text = with(m.from, m.text, span(row.Start, n), '#')
			return row.Start, true
		}
	}
	return 0, false
}

// turn makes pages that are all of one kind those of another.
func (m *meant) turn(s api.Span, was, now byte) bool {
	if !all(m.from, m.text, s, was) {
		return false
	}
	m.text = with(m.from, m.text, s, now)
	return true
}

// pair is a Free with how it is meant, and what was taken of it and not given back.
type pair struct {
	f     *extent.Free
	m     meant
	taken map[int]bool
}

func newPair(from, n int) *pair {
	return &pair{extent.New(from, n), made(from, n), map[int]bool{}}
}

// mark notes the pages of s as taken, or as given back; none is so noted already.
func (p *pair) mark(t *testing.T, s api.Span, taken bool) {
	t.Helper()
	for at := s.Start; at < s.Start+s.Pages; at++ {
		if p.taken[at] == taken {
			t.Fatalf("page %d: taken %v, again", at, taken)
		}
		p.taken[at] = taken
	}
}

// step does what three bytes say.
func (p *pair) step(t *testing.T, kind, x, y byte) {
	t.Helper()
	s := span(int(int8(x)), int(int8(y)))
	if kind&8 != 0 {
		s = span(p.m.from+int(x)%(len(p.m.text)+1), int(y)%8)
	}
	switch kind % 4 {
	case 0:
		got, ok := p.f.Take(s.Pages)
		want, can := p.m.take(s.Pages)
		if got != want || ok != can {
			t.Fatalf("Take(%d): %d, %v, not %d, %v", s.Pages, got, ok, want, can)
		}
		if ok {
			p.mark(t, span(got, s.Pages), true)
		}
	case 1:
		can := p.m.turn(s, '.', '#')
		claims(t, p.f, s, can)
		if can {
			p.mark(t, s, true)
		}
	case 2:
		can := p.m.turn(s, '#', '.')
		gives(t, p.f, s, can)
		if can {
			p.mark(t, s, false)
		}
	case 3:
		was := p.f
		p.f = was.Copy()
		was.Take(s.Pages)
		was.Claim(s)
		was.Give(s)
	}
}

// whole: what is free and what was taken and not given back are all pages, and no page is both.
func (p *pair) whole(t *testing.T) {
	t.Helper()
	free := map[int]bool{}
	for s := range p.f.Spans() {
		for at := s.Start; at < s.Start+s.Pages; at++ {
			if free[at] || p.taken[at] {
				t.Fatalf("page %d is free, and told twice or taken", at)
			}
			free[at] = true
		}
	}
	for i := range p.m.text {
		if at := p.m.from + i; !free[at] && !p.taken[at] {
			t.Fatalf("page %d is lost", at)
		}
		delete(free, p.m.from+i)
	}
	if len(free) != 0 {
		t.Fatalf("pages that there aren't: %v", free)
	}
}

// run does the moves that bytes say, on pages from the first byte on, of which the second says how many there are.
func run(t *testing.T, moves []byte) {
	t.Helper()
	if len(moves) < 2 {
		return
	}
	p := newPair(int(int8(moves[0])), int(int8(moves[0]))+int(moves[1])%64)
	for l := moves[2:]; len(l) >= 3; l = l[3:] {
		p.step(t, l[0], l[1], l[2])
		p.whole(t)
		is(t, p.f, p.m.from, p.m.text)
	}
}

// next is a row of numbers that look like any.
func next(seed *uint64) byte {
	*seed = *seed*6364136223846793005 + 1442695040888963407
	return byte(*seed >> 56)
}

func TestP6_3NothingLost(t *testing.T) {
	for seed := range uint64(300) {
		at := seed
		moves := make([]byte, 2+3*80)
		for i := range moves {
			moves[i] = next(&at)
		}
		for i := 2; i+2 < len(moves); i += 3 {
			moves[i] |= 8
		}
		moves[0] %= 100
		run(t, moves)
	}
}

// TestP6_3Ends: of all pages that there can be, taken and given back at both ends and in the midst.
func TestP6_3Ends(t *testing.T) {
	p := newPair(-1, most+1)
	for i, s := range []api.Span{span(0, 1), span(most-1, 1), span(most/2, 100), span(1, 9), span(most-10, 9)} {
		claims(t, p.f, s, true)
		p.m.turn(s, '.', '#')
		p.mark(t, s, true)
		p.whole(t)
		if got, want := len(list(p.f.Spans())), len(rows(0, p.m.text, '.')); got != want {
			t.Fatalf("behind Claim %d: %d rows, not %d", i, got, want)
		}
	}
	takes(t, p.f, 8182, 10)
	p.mark(t, span(10, 8182), true)
	p.whole(t)
	gives(t, p.f, span(0, 10), true)
	p.mark(t, span(0, 10), false)
	gives(t, p.f, span(most-10, 10), true)
	p.mark(t, span(most-10, 10), false)
	p.whole(t)
	spans(t, p.f, span(0, 10), span(8292, most-8292))
	gives(t, p.f, span(10, 8282), true)
	spans(t, p.f, span(0, most))
}

// TestP6_3ManyRows: each second page is taken, then given back, so that rows are at their most, then one.
func TestP6_3ManyRows(t *testing.T) {
	f := extent.New(0, most)
	for at := 0; at < most; at += 2 {
		claims(t, f, span(at, 1), true)
	}
	if f.Count() != most/2 || f.Largest() != 1 || len(list(f.Spans())) != most/2 {
		t.Fatalf("%d, %d", f.Count(), f.Largest())
	}
	takesNone(t, f, 2)
	for at := most - 2; at >= 0; at -= 2 {
		gives(t, f, span(at, 1), true)
	}
	spans(t, f, span(0, most))
}

func FuzzMoves(f *testing.F) {
	f.Add([]byte{1, 8, 8, 0, 3, 8, 0, 2, 10, 0, 3})
	f.Add([]byte{0, 10, 9, 2, 3, 8, 0, 4, 11, 1, 1, 10, 2, 2})
	f.Add([]byte{255, 60, 0, 255, 255, 1, 0, 1, 2, 0, 1, 3, 7, 7})
	f.Fuzz(func(t *testing.T, moves []byte) {
		run(t, moves[:min(len(moves), 302)])
	})
}

// FuzzSpan holds any two numbers against pages one by one.
func FuzzSpan(f *testing.F) {
	f.Add(3, 9, 4, 2)
	f.Add(0, most, math.MaxInt, 1)
	f.Add(math.MinInt, math.MaxInt, 1, math.MaxInt)
	f.Fuzz(func(t *testing.T, from, n, start, pages int) {
		g, m, s := extent.New(from, n), made(from, n), span(start, pages)
		name := fmt.Sprintf("New(%d, %d), %v", from, n, s)
		if can := all(m.from, m.text, s, '.'); g.Has(s) != can || g.Give(s) || g.Claim(s) != can || g.Has(s) || g.Give(s) != can {
			t.Fatal(name)
		}
		start, is := g.Take(pages)
		want, can := m.take(pages)
		if start != want || is != can || g.Count() != strings.Count(m.text, ".") {
			t.Fatal(name)
		}
	})
}
