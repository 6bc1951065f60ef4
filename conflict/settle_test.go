package conflict_test

import (
	"math"
	"slices"
	"strings"
	"testing"

	"apograph/api"
	"apograph/conflict"
)

// others are numbers that are no way to settle a clash.
func others() []int {
	return []int{api.Manual, -1, -2, -3, 4, 5, 6, 7, 8, 9, 100, 255, 256, 257, 258, 259, -253, -254, -255, 1 << 16, 1<<16 + 1, 1 << 32, 1<<32 + api.Ours, 1<<32 + api.Theirs, 1<<32 + api.Base, -1 << 32, math.MaxInt, math.MaxInt - 1, math.MinInt, math.MinInt + api.Ours, math.MinInt + api.Theirs, math.MinInt + api.Base}
}

// settles asks Settle for this edit, and All likewise.
func settles(t *testing.T, c api.Clash, how int, want api.Edit) {
	t.Helper()
	if x, e := conflict.Settle(c, how); x != want || e != api.OK {
		t.Errorf("Settle(%v, %d): %v, %d, not %v", c, how, x, e, want)
	}
	if l, e := conflict.All([]api.Clash{c}, how); !slices.Equal(l, []api.Edit{want}) || e != api.OK {
		t.Errorf("All(%v, %d): %v, %d, not %v", c, how, l, e, want)
	}
}

// The chapter's example.
func TestP13Example(t *testing.T) {
	settles(t, clash("a", "=1", "=2", ""), api.Theirs, api.Edit{Key: "a", Gone: true})
}

func TestP13_3Settle(t *testing.T) {
	c := clash("a", "=1", "=2", "=3")
	settles(t, c, api.Ours, api.Edit{Key: "a", Val: "2"})
	settles(t, c, api.Theirs, api.Edit{Key: "a", Val: "3"})
	settles(t, c, api.Base, api.Edit{Key: "a", Val: "1"})
	gone := api.Edit{Key: "b", Gone: true}
	settles(t, clash("b", "=1", "", "=3"), api.Ours, gone)
	settles(t, clash("b", "=1", "", "=3"), api.Theirs, api.Edit{Key: "b", Val: "3"})
	settles(t, clash("b", "=1", "", "=3"), api.Base, api.Edit{Key: "b", Val: "1"})
	settles(t, clash("b", "=1", "=2", ""), api.Theirs, gone)
	settles(t, clash("b", "=1", "=2", ""), api.Ours, api.Edit{Key: "b", Val: "2"})
	settles(t, clash("b", "", "=2", "=3"), api.Base, gone)
	settles(t, clash("b", "", "=2", "=3"), api.Ours, api.Edit{Key: "b", Val: "2"})
	// An empty value is one.
	settles(t, clash("c", "=1", "=", ""), api.Ours, api.Edit{Key: "c"})
	settles(t, clash("c", "=1", "", "="), api.Theirs, api.Edit{Key: "c"})
	settles(t, clash("c", "=", "=1", ""), api.Base, api.Edit{Key: "c"})
}

// P13.3, P6: Settle asks nothing of a clash; what isn't there has no Val, whatever its side says.
func TestP13_3SettleOdd(t *testing.T) {
	for _, c := range some("", "a", strings.Repeat("k", 41)) {
		for how, x := range map[int]api.Side{api.Ours: c.Ours, api.Theirs: c.Theirs, api.Base: c.Base} {
			want := api.Edit{Key: c.Key, Gone: true}
			if x.Has {
				want = api.Edit{Key: c.Key, Val: x.Val}
			}
			settles(t, c, how, want)
		}
	}
	settles(t, api.Clash{}, api.Ours, api.Edit{Gone: true})
}

func TestP13_3Policy(t *testing.T) {
	for _, how := range others() {
		for _, c := range append(fair(6), api.Clash{}, clash("", "1", "1", "1")) {
			if x, e := conflict.Settle(c, how); x != (api.Edit{}) || e != api.ErrPolicy {
				t.Errorf("Settle(%v, %d): %v, %d", c, how, x, e)
			}
		}
	}
}

func TestP13_3All(t *testing.T) {
	l := []api.Clash{clash("a", "=1", "=2", "=3"), clash("b", "", "=", "=x"), clash("c", "=1", "", "=3"), clash("d", "=1", "=2", "")}
	for how, want := range map[int][]api.Edit{
		api.Ours:   {{Key: "a", Val: "2"}, {Key: "b"}, {Key: "c", Gone: true}, {Key: "d", Val: "2"}},
		api.Theirs: {{Key: "a", Val: "3"}, {Key: "b", Val: "x"}, {Key: "c", Val: "3"}, {Key: "d", Gone: true}},
		api.Base:   {{Key: "a", Val: "1"}, {Key: "b", Gone: true}, {Key: "c", Val: "1"}, {Key: "d", Val: "1"}},
	} {
		for n := range len(l) + 1 {
			if got, e := conflict.All(l[:n], how); !slices.Equal(got, want[:n]) || e != api.OK {
				t.Errorf("All of %d, %d: %v, %d, not %v", n, how, got, e, want[:n])
			}
		}
	}
	for _, how := range others() {
		for n := 1; n <= len(l); n++ {
			if got, e := conflict.All(l[:n], how); len(got) != 0 || e != api.ErrPolicy {
				t.Errorf("All of %d, %d: %v, %d", n, how, got, e)
			}
		}
	}
}

// P13.3: of no clash there is no Settle, and so no error, whatever how is.
func TestP13_3AllOfNone(t *testing.T) {
	for _, how := range append(others(), api.Ours, api.Theirs, api.Base) {
		for _, l := range [][]api.Clash{nil, {}, fair(3)[:0]} {
			if got, e := conflict.All(l, how); len(got) != 0 || e != api.OK {
				t.Errorf("All of none, %d: %v, %d", how, got, e)
			}
		}
	}
}

// P13.3: in the order of the list, even of keys that don't rise; and of many.
func TestP13_3AllInOrder(t *testing.T) {
	many := fair(3000)
	mixed := append(of("f", "b", "d", "b", ""), some("c", "a")...)
	for _, l := range [][]api.Clash{mixed, many} {
		for _, how := range []int{api.Ours, api.Theirs, api.Base} {
			got, e := conflict.All(l, how)
			if len(got) != len(l) || e != api.OK {
				t.Fatal(how, len(got), e)
			}
			for i, c := range l {
				if want, _ := conflict.Settle(c, how); got[i] != want || got[i].Key != c.Key {
					t.Fatalf("All, %d, at %d: %v, not %v", how, i, got[i], want)
				}
			}
		}
	}
}

// P2: what was handed in or out may be changed without a change elsewhere.
func TestP13_3Memory(t *testing.T) {
	all := fair(7)
	was := slices.Clone(all)
	first, _ := conflict.All(all[:5], api.Ours)
	second, _ := conflict.All(all[:5], api.Ours)
	want := slices.Clone(second)
	clear(first[:cap(first)])
	if !slices.Equal(second, want) || !slices.Equal(all, was) {
		t.Error("All shares memory", second, all)
	}
	clear(all)
	if !slices.Equal(second, want) || len(want) != 5 || want[4].Key != "k00004" {
		t.Error("All shares its argument's memory", second)
	}
}
