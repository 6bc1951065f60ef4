package refs_test

import (
	"slices"
	"strings"
	"testing"

	"apograph/api"
	"apograph/refs"
)

// P16.2: what is made is told as it is, branch and tag, with any Id.
func TestP16_2Make(t *testing.T) {
	for _, id := range []uint64{0, 1, 2, 1 << 31, 1 << 32, 1<<63 - 1, 1 << 63, top - 1, top} {
		x := refs.New()
		makes(t, x, branch("b", id), api.OK)
		holds(t, x, branch("b", id))
		makes(t, x, tag("a", id), api.OK)
		holds(t, x, tag("a", id), branch("b", id))
		makes(t, x, branch(strings.Repeat("c", 20), id), api.OK)
		holds(t, x, tag("a", id), branch("b", id), branch(strings.Repeat("c", 20), id))
	}
}

func TestP16_2MakeName(t *testing.T) {
	for _, x := range []*refs.Table{refs.New(), made(t, row(3)...), made(t, row(40)...)} {
		for _, name := range wrong() {
			stays(t, x, func() {
				makes(t, x, branch(name, 1), api.ErrName)
				makes(t, x, tag(name, 0), api.ErrName)
				makes(t, x, tag(name, top), api.ErrName)
			})
			getsNot(t, x, name)
		}
		stays(t, x, func() { makes(t, x, api.Ref{}, api.ErrName) })
	}
}

// P16.2: whatever is made by a name that is there, it doesn't come, and the one that is there stays; so too where 40 are there.
func TestP16_2MakeThere(t *testing.T) {
	for _, many := range []int{1, 2, 39, 40} {
		x := made(t, row(many)...)
		for _, r := range row(many) {
			stays(t, x, func() {
				makes(t, x, r, api.ErrThere)
				for _, id := range []uint64{0, 1, r.Id + 1, top} {
					makes(t, x, branch(r.Name, id), api.ErrThere)
					makes(t, x, tag(r.Name, id), api.ErrThere)
				}
			})
		}
		holds(t, x, row(many)...)
	}
}

func TestP16_2MakeMany(t *testing.T) {
	for _, last := range []api.Ref{branch("last", 1), tag("last", 1), branch("last", 0), tag("last", top)} {
		x := made(t, row(39)...)
		makes(t, x, last, api.OK) // the 40th
		l := append(row(39), last)
		holds(t, x, l...)
		for _, name := range []string{"a", "r39", "z", "last-", "las"} { // the 41st
			stays(t, x, func() {
				makes(t, x, branch(name, 1), api.ErrMany)
				makes(t, x, tag(name, 2), api.ErrMany)
			})
			getsNot(t, x, name)
		}
		makes(t, x, branch("Bad", 1), api.ErrName)
		makes(t, x, branch("last", 2), api.ErrThere)
		drops(t, x, "r07", api.OK)
		makes(t, x, branch("Bad", 1), api.ErrName)
		makes(t, x, branch("last", 2), api.ErrThere)
		makes(t, x, tag("a", 2), api.OK)
		stays(t, x, func() { makes(t, x, branch("r07", 7), api.ErrMany) })
		holds(t, x, append(slices.Delete(l, 7, 8), tag("a", 2))...)
	}
}

// P16.2: what was refused isn't there, and may come later.
func TestP16_2MakeAgain(t *testing.T) {
	x := made(t, row(40)...)
	makes(t, x, branch("new", 1), api.ErrMany)
	drops(t, x, "new", api.ErrRef)
	sets(t, x, "new", 1, 2, api.ErrRef)
	drops(t, x, "r00", api.OK)
	getsNot(t, x, "new")
	makes(t, x, branch("new", 3), api.OK)
	holds(t, x, append(row(40)[1:], branch("new", 3))...)
}

func TestP16_2Set(t *testing.T) {
	ids := []uint64{0, 1, 2, 77, 1 << 32, 1<<32 + 1, 1 << 63, 1<<63 + 1, top - 1, top}
	for _, was := range ids {
		for _, old := range ids {
			for _, id := range ids {
				x := made(t, branch("a", was), branch("b", was), tag("c", was))
				if old != was {
					stays(t, x, func() { sets(t, x, "b", old, id, api.ErrStale) })
					continue
				}
				sets(t, x, "b", old, id, api.OK)
				holds(t, x, branch("a", was), branch("b", id), tag("c", was))
			}
		}
	}
}

// P16.2: Set again and again, each time with the Id that the one ahead left.
func TestP16_2SetRow(t *testing.T) {
	x := made(t, branch("main", 0), branch("dev", 0))
	at := uint64(0)
	for _, id := range []uint64{1, 2, 2, 0, 0, top, top, 1 << 40, 1, 0} {
		sets(t, x, "main", at^1, id, api.ErrStale)
		sets(t, x, "main", at, id, api.OK)
		if id != at {
			sets(t, x, "main", at, id, api.ErrStale) // what was is no more
		}
		at = id
		holds(t, x, branch("main", at), branch("dev", 0))
	}
}

func TestP16_2SetNone(t *testing.T) {
	for _, x := range []*refs.Table{refs.New(), made(t, row(3)...), made(t, row(40)...)} {
		for _, name := range append(wrong(), "a", "main", "r", "r0", "r000", "r99", "z") {
			stays(t, x, func() {
				sets(t, x, name, 0, 0, api.ErrRef)
				sets(t, x, name, 0, 1, api.ErrRef)
				sets(t, x, name, 1, 0, api.ErrRef)
				sets(t, x, name, top, top, api.ErrRef)
			})
			getsNot(t, x, name)
		}
	}
}

func TestP16_2SetFull(t *testing.T) {
	x := made(t, row(40)...)
	var want []api.Ref
	for _, r := range row(40) {
		if r.Tag {
			sets(t, x, r.Name, r.Id, 5, api.ErrHead)
		} else {
			sets(t, x, r.Name, r.Id, r.Id+1, api.OK)
			r.Id++
		}
		want = append(want, r)
	}
	holds(t, x, want...)
}

func TestP16_2Drop(t *testing.T) {
	for _, many := range []int{1, 2, 3, 40} {
		for at, r := range row(many) {
			x := made(t, row(many)...)
			drops(t, x, r.Name, api.OK)
			getsNot(t, x, r.Name)
			rest := slices.Delete(row(many), at, at+1)
			holds(t, x, rest...)
			stays(t, x, func() {
				drops(t, x, r.Name, api.ErrRef) // twice
				sets(t, x, r.Name, r.Id, 1, api.ErrRef)
			})
			for _, again := range []api.Ref{r, branch(r.Name, r.Id), tag(r.Name, r.Id), branch(r.Name, r.Id+5), tag(r.Name, r.Id+5)} {
				makes(t, x, again, api.OK)
				holds(t, x, append(rest[:len(rest):len(rest)], again)...)
				makes(t, x, r, api.ErrThere)
				drops(t, x, r.Name, api.OK)
				holds(t, x, rest...)
			}
		}
	}
}

func TestP16_2DropNone(t *testing.T) {
	for _, x := range []*refs.Table{refs.New(), made(t, row(3)...), made(t, row(40)...)} {
		for _, name := range append(wrong(), "a", "main", "r", "r0", "r000", "r99", "z") {
			stays(t, x, func() { drops(t, x, name, api.ErrRef) })
		}
	}
}

// P16.2: where 40 were there, there is room for one behind each Drop, and for no more.
func TestP16_2DropFull(t *testing.T) {
	x := made(t, row(40)...)
	want := row(40)
	for i, r := range row(40) {
		makes(t, x, branch("x", 1), api.ErrMany)
		drops(t, x, r.Name, api.OK)
		drops(t, x, r.Name, api.ErrRef)
		fresh := api.Ref{Name: strings.Replace(r.Name, "r", "q", 1), Tag: !r.Tag, Id: r.Id + 1}
		makes(t, x, fresh, api.OK)
		want[i] = fresh
		holds(t, x, want...)
	}
}

func TestP16_2Copy(t *testing.T) {
	for _, many := range []int{0, 1, 2, 12, 40} {
		x := made(t, row(many)...)
		c := x.Copy()
		if c == nil || c == x {
			t.Fatal("no Copy of its own")
		}
		holds(t, c, row(many)...)
		holds(t, c.Copy(), row(many)...)
		for _, r := range row(many) {
			drops(t, c, r.Name, api.OK)
		}
		makes(t, c, tag("z", 1), api.OK)
		holds(t, c, tag("z", 1))
		holds(t, x, row(many)...)
	}
}

// P16.2: changes of either, of each kind, the other one doesn't show, nor does a Copy of the Copy.
func TestP16_2CopyChanged(t *testing.T) {
	for turn := range 3 {
		x := made(t, branch("a", 1), tag("b", 2), branch("c", 3))
		three := []*refs.Table{x, x.Copy(), nil}
		three[2] = three[1].Copy()
		y := three[turn]
		sets(t, y, "a", 1, 9, api.OK)
		sets(t, y, "a", 1, 8, api.ErrStale)
		drops(t, y, "b", api.OK)
		makes(t, y, branch("b", 7), api.OK)
		drops(t, y, "c", api.OK)
		makes(t, y, tag("d", 4), api.OK)
		for i, z := range three {
			if i == turn {
				holds(t, z, branch("a", 9), branch("b", 7), tag("d", 4))
				continue
			}
			holds(t, z, branch("a", 1), tag("b", 2), branch("c", 3))
			sets(t, z, "a", 1, 5, api.OK)
			sets(t, z, "b", 2, 5, api.ErrHead)
			makes(t, z, tag("c", 4), api.ErrThere)
		}
	}
}

// P16.2: what is told of one goes on when the other one changes.
func TestP16_2CopyAll(t *testing.T) {
	x := made(t, row(6)...)
	c := x.Copy()
	seq := c.All()
	for _, r := range row(6) {
		drops(t, x, r.Name, api.OK)
	}
	makes(t, x, branch("a", 1), api.OK)
	if l := told(seq); !slices.Equal(l, row(6)) {
		t.Fatal(l)
	}
	holds(t, c, row(6)...)
	holds(t, x, branch("a", 1))
}

// P16.2, P4: several faults at once.
func TestP16_2First(t *testing.T) {
	x := made(t, append(row(38), branch("main", 1), tag("v1", 2))...)
	stays(t, x, func() {
		for _, name := range wrong() {
			makes(t, x, branch(name, 1), api.ErrName) // a name that may not be, and 40 are there
			sets(t, x, name, 5, 6, api.ErrRef)
			drops(t, x, name, api.ErrRef)
		}
		makes(t, x, branch("main", 1), api.ErrThere) // there, and 40 are there
		makes(t, x, tag("v1", 3), api.ErrThere)
		makes(t, x, tag("v2", 3), api.ErrMany)
		sets(t, x, "v1", 9, 3, api.ErrHead) // a tag, and its Id isn't old
		sets(t, x, "v1", 9, 2, api.ErrHead)
		sets(t, x, "v1", 2, 3, api.ErrHead)
		sets(t, x, "main", 2, 3, api.ErrStale)
		sets(t, x, "v2", 2, 3, api.ErrRef)
	})
}

// P16.3: whatever is done but a Drop, a tag has the Id with which it was made.
func TestP16_3TagsStay(t *testing.T) {
	ids := []uint64{0, 1, 2, 77, 1 << 32, 1 << 63, top - 1, top}
	for _, was := range ids {
		x := refs.New(tag("v1", was), branch("main", was))
		for _, old := range ids {
			for _, id := range ids {
				sets(t, x, "v1", old, id, api.ErrHead)
				makes(t, x, tag("v1", id), api.ErrThere)
				makes(t, x, branch("v1", id), api.ErrThere)
			}
			holds(t, x, tag("v1", was), branch("main", was))
		}
		c := x.Copy()
		sets(t, c, "v1", was, was+1, api.ErrHead)
		sets(t, c, "main", was, was+1, api.OK)
		holds(t, c, tag("v1", was), branch("main", was+1))
		sets(t, x, "main", was, was+2, api.OK)
		holds(t, x, tag("v1", was), branch("main", was+2))
	}
}

// P16.3: behind a Drop there is no tag any more: what is made by its name then is what it is made as.
func TestP16_3DropTag(t *testing.T) {
	x := made(t, tag("v1", 1), branch("main", 1))
	drops(t, x, "v1", api.OK)
	makes(t, x, tag("v1", 2), api.OK)
	sets(t, x, "v1", 2, 3, api.ErrHead)
	sets(t, x, "v1", 1, 3, api.ErrHead)
	drops(t, x, "v1", api.OK)
	makes(t, x, branch("v1", 4), api.OK)
	sets(t, x, "v1", 2, 5, api.ErrStale)
	sets(t, x, "v1", 4, 5, api.OK)
	drops(t, x, "main", api.OK)
	makes(t, x, tag("main", 1), api.OK)
	sets(t, x, "main", 1, 2, api.ErrHead)
	holds(t, x, branch("v1", 5), tag("main", 1))
}

// P16.2, P1: nil and the zero value, each call, and again when all were called.
func TestP16_2NobodyMade(t *testing.T) {
	for _, x := range []*refs.Table{nil, {}} {
		for range 2 {
			for _, r := range append(row(41), branch("main", 0), tag("v1", top), branch("", 1), tag("Bad", 1)) {
				makes(t, x, r, api.ErrName)
				getsNot(t, x, r.Name)
				sets(t, x, r.Name, r.Id, r.Id, api.ErrRef)
				sets(t, x, r.Name, 0, 1, api.ErrRef)
				drops(t, x, r.Name, api.ErrRef)
			}
			for _, name := range wrong() {
				getsNot(t, x, name)
				sets(t, x, name, 0, 0, api.ErrRef)
				drops(t, x, name, api.ErrRef)
			}
			holds(t, x)
			if x.Copy() != nil {
				t.Fatal("a Copy")
			}
		}
	}
}

// P2: what was handed in stays as it is, may be changed later, and what lies behind its length isn't looked at.
func TestP2HandedIn(t *testing.T) {
	l := append(row(5), branch("Bad", 1), branch("r00", 9))
	was := slices.Clone(l)
	x := refs.New(l[:3]...)
	holds(t, x, row(3)...)
	y := refs.New(l...)
	holds(t, y, row(5)...)
	if !slices.Equal(l, was) {
		t.Fatal("changed", l)
	}
	for i := range l {
		l[i] = branch("spoilt", 99)
	}
	holds(t, x, row(3)...)
	holds(t, y, row(5)...)
	r := branch("s", 1)
	makes(t, x, r, api.OK)
	r.Name, r.Tag, r.Id = "spoilt", true, 99
	name := []byte("t")
	makes(t, x, branch(string(name), 1), api.OK)
	name[0] = 'u'
	holds(t, x, append(row(3), branch("s", 1), branch("t", 1))...)
}

// P2: what was handed out may be changed without a change elsewhere.
func TestP2HandedOut(t *testing.T) {
	x := made(t, row(9)...)
	seq := x.All()
	for range 2 {
		for r := range seq {
			r.Name, r.Tag, r.Id = "spoilt", !r.Tag, 99
			r = branch(r.Name, 98)
		}
		r, _ := x.Get("r04")
		r.Name, r.Tag, r.Id = "spoilt", !r.Tag, 99
		holds(t, x, row(9)...)
	}
	l := told(x.All())
	clear(l[:cap(l)])
	if l := told(seq); !slices.Equal(l, row(9)) {
		t.Fatal(l)
	}
}

// P3: the same is told however often it is asked, and however the refs came there.
func TestP3Same(t *testing.T) {
	one := made(t, row(30)...)
	back := row(40)
	slices.Reverse(back)
	two := made(t, back...)
	for _, r := range row(40)[30:] {
		drops(t, two, r.Name, api.OK)
	}
	sets(t, two, "r00", 0, 4, api.OK)
	sets(t, two, "r00", 4, 0, api.OK)
	for range 50 {
		for _, x := range []*refs.Table{one, two, one.Copy(), two.Copy()} {
			holds(t, x, row(30)...)
		}
	}
}
