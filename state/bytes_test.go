package state_test

import (
	"bytes"
	"encoding/binary"
	"fmt"
	"math/rand"
	"slices"
	"strings"
	"testing"

	"apograph/api"
	"apograph/conflict"
	"apograph/state"
)

func nums(b []byte, l ...uint64) []byte {
	for _, n := range l {
		b = binary.AppendUvarint(b, n)
	}
	return b
}

func text(b []byte, s string) []byte {
	return append(nums(b, uint64(len(s))), s...)
}

func flag(b []byte, is bool) []byte {
	if is {
		return append(b, 1)
	}
	return append(b, 0)
}

// laidClashes is what a record of clashes is, whether they are right or not.
func laidClashes(l []api.Clash) []byte {
	b := nums(nil, uint64(len(l)))
	for _, c := range l {
		b = text(b, c.Key)
		for _, x := range sidesOf(&c) {
			b = text(flag(b, x.Has), x.Val)
		}
	}
	return b
}

// laid is what a record of a state is, whether it is right or not, its numbers made by the library.
func laid(s api.State) []byte {
	return text(ahead(s), string(laidClashes(s.Clashes)))
}

// ahead is all of a record but the text of its clashes.
func ahead(s api.State) []byte {
	b := nums(text(nil, s.Head), s.Work, s.Next, s.Pending, uint64(len(s.Refs)))
	for _, r := range s.Refs {
		b = nums(flag(text(b, r.Name), r.Tag), r.Id)
	}
	b = nums(b, uint64(len(s.Made)))
	for _, m := range s.Made {
		b = nums(b, m.Id, m.Chunk)
	}
	return b
}

// parser reads a record by the library.
type parser struct {
	rest   []byte
	broken bool
}

func (p *parser) num() uint64 {
	n, size := binary.Uvarint(p.rest)
	if size <= 0 {
		p.broken = true
		return 0
	}
	p.rest = p.rest[size:]
	return n
}

func (p *parser) text() string {
	size := p.num()
	if size > uint64(len(p.rest)) {
		p.broken = true
		return ""
	}
	s := string(p.rest[:size])
	p.rest = p.rest[size:]
	return s
}

// parsed takes a record only where it is laid so and the state is right.
func parsed(b []byte) (api.State, bool) {
	p := &parser{rest: b}
	var s api.State
	s.Head = p.text()
	s.Work = p.num()
	s.Next = p.num()
	s.Pending = p.num()
	for many := p.num(); many > 0 && !p.broken; many-- {
		r := api.Ref{Name: p.text()}
		r.Tag = p.num() == 1
		r.Id = p.num()
		s.Refs = append(s.Refs, r)
	}
	for many := p.num(); many > 0 && !p.broken; many-- {
		m := api.Made{Id: p.num()}
		m.Chunk = p.num()
		s.Made = append(s.Made, m)
	}
	l, e := conflict.Of([]byte(p.text()))
	s.Clashes = l
	if p.broken || e != api.OK || !meant(s) || !bytes.Equal(laid(s), b) {
		return api.State{}, false
	}
	return s, true
}

// reads asks for the state that b is, and for b of it.
func reads(t *testing.T, b []byte, want api.State) {
	t.Helper()
	s, e := state.Of(b)
	if e != api.OK || !like(s, want) || !state.Same(s, want) {
		t.Fatalf("Of %q: %v, %d, not %v", b, s, e, want)
	}
	if again, e := state.Put(s); e != api.OK || !bytes.Equal(again, b) {
		t.Fatalf("Put of Of %q: %q, %d", b, again, e)
	}
}

// readsNot asks for an error, and for nothing else.
func readsNot(t *testing.T, b []byte) {
	t.Helper()
	if s, e := state.Of(b); e != api.ErrPack || !like(s, api.State{}) {
		t.Fatalf("Of %q: %v, %d", b, s, e)
	}
}

// as asks for what the library reads of any bytes.
func as(t *testing.T, b []byte) bool {
	t.Helper()
	s, is := parsed(b)
	if is {
		reads(t, b, s)
	} else {
		readsNot(t, b)
	}
	return is
}

// puts asks for these bytes of a state, and for the state of them.
func puts(t *testing.T, s api.State, want []byte) {
	t.Helper()
	was := clone(s)
	if b, e := state.Put(s); e != api.OK || !bytes.Equal(b, want) {
		t.Fatalf("Put of %v: %q, %d, not %q", s, b, e, want)
	}
	if !like(s, was) {
		t.Fatalf("changed: %v, not %v", s, was)
	}
	reads(t, want, s)
}

// putsNot asks for an error and no bytes, and that bytes laid so are no state.
func putsNot(t *testing.T, s api.State) {
	t.Helper()
	if b, e := state.Put(s); e != api.ErrState || len(b) != 0 {
		t.Fatalf("Put of %v: %q, %d", s, b, e)
	}
	readsNot(t, laid(s))
}

// The chapter's example.
func TestP17Example(t *testing.T) {
	b, e := state.Put(state.New())
	if e != api.OK {
		t.Fatal(e)
	}
	s, e := state.Of(b)
	if e != api.OK || !state.Same(s, state.New()) || !like(s, state.New()) {
		t.Fatal(s, e)
	}
}

func TestP17_3PutBytes(t *testing.T) {
	most := "\xff\xff\xff\xff\xff\xff\xff\xff\xff\x01"
	for _, x := range []struct {
		s    api.State
		want string
	}{
		{state.New(), "\x04main\x00\x01\x00\x01\x04main\x00\x00\x00\x01\x00"},
		{api.State{Head: "a", Work: 7, Next: 3, Refs: []api.Ref{branch("a", 2), tag("v1", 1)}, Made: []api.Made{made(1, 300), made(2, 4)}},
			"\x01a\x07\x03\x00\x02\x01a\x00\x02\x02v1\x01\x01\x02\x01\xac\x02\x02\x04\x01\x00"},
		{api.State{Head: "a", Work: 7, Next: 3, Pending: 2, Refs: []api.Ref{branch("a", 0)}, Made: []api.Made{made(2, 4)}, Clashes: []api.Clash{{Key: "k", Base: has("1"), Theirs: has("")}}},
			"\x01a\x07\x03\x02\x01\x01a\x00\x00\x01\x02\x04\x0a\x01\x01k\x01\x011\x00\x00\x01\x00"},
		{api.State{Head: "a", Work: top, Next: top, Refs: []api.Ref{branch("a", 0), branch("b", 0)}, Made: []api.Made{made(1, top)}},
			"\x01a" + most + most + "\x00\x02\x01a\x00\x00\x01b\x00\x00\x01\x01" + most + "\x01\x00"},
		{api.State{Head: "a", Next: top, Pending: 128, Refs: []api.Ref{branch("a", 128)}, Made: []api.Made{made(128, 1)}},
			"\x01a\x00" + most + "\x80\x01\x01\x01a\x00\x80\x01\x01\x80\x01\x01\x01\x00"},
	} {
		puts(t, x.s, []byte(x.want))
	}
}

func TestP17_3PutEdges(t *testing.T) {
	for _, s := range edges() {
		puts(t, s, laid(s))
	}
}

// P17.3, P3: lists that are nil and lists that are empty are the same bytes.
func TestP17_3PutEmpty(t *testing.T) {
	a := api.State{Head: "a", Next: 1, Refs: []api.Ref{branch("a", 0)}}
	b := a
	b.Made, b.Clashes = []api.Made{}, []api.Clash{}
	c := a
	c.Made, c.Clashes = full().Made[:0], full().Clashes[:0]
	for _, s := range []api.State{a, b, c} {
		puts(t, s, []byte("\x01a\x00\x01\x00\x01\x01a\x00\x00\x00\x01\x00"))
	}
}

func TestP17_3PutWrong(t *testing.T) {
	putsNot(t, api.State{})
	for what, spoil := range faults() {
		for _, s := range []api.State{full(), one()} {
			t.Run(what, func(t *testing.T) {
				spoil(&s)
				putsNot(t, s)
			})
		}
	}
}

func TestP17_3PutMany(t *testing.T) {
	all := clashes(5000)
	s := full()
	for _, many := range []int{998, 999, 1000} {
		s.Clashes = all[:many]
		puts(t, s, laid(s))
	}
	for _, many := range []int{1001, 1002, 2000, 5000} {
		s.Clashes = all[:many]
		right(t, s, true)
		putsNot(t, s)
		// With a fault more.
		x := clone(s)
		x.Clashes[many-1].Key = ""
		putsNot(t, x)
		x = clone(s)
		x.Pending = 0
		putsNot(t, x)
		x = clone(s)
		x.Next = 0
		putsNot(t, x)
	}
}

// P17.3, P17.4: a state that is as long as one can be, its clashes far longer than a text of pages.
func TestP17_4Longest(t *testing.T) {
	s := api.State{Head: strings.Repeat("a", 20), Work: top, Next: top, Pending: top - 1}
	for i := range uint64(200) {
		s.Made = append(s.Made, made(top-200+i, top))
	}
	for i := range 40 {
		s.Refs = append(s.Refs, tag(fmt.Sprintf("b%019d", i), top-1))
	}
	s.Refs[0] = branch(s.Head, top-1)
	val := strings.Repeat("v", 199)
	for i := range 1000 {
		s.Clashes = append(s.Clashes, api.Clash{Key: fmt.Sprintf("%040d", i), Base: has(val + "1"), Ours: has(val + "2"), Theirs: has(val + "3")})
	}
	b := laid(s)
	if len(b) < 600_000 {
		t.Fatal("too short", len(b))
	}
	puts(t, s, b)
	readsNot(t, b[:len(b)-1])
	readsNot(t, append(slices.Clone(b), 0))
}

// P17.3: nothing, a beginning, and bytes behind.
func TestP17_3Ends(t *testing.T) {
	readsNot(t, nil)
	readsNot(t, []byte{})
	for _, s := range []api.State{full(), one(), state.New(), edges()[5]} {
		b := laid(s)
		for size := range b {
			readsNot(t, b[:size])
			readsNot(t, b[:size:size])
		}
		for x := range 256 {
			readsNot(t, append(slices.Clone(b), byte(x)))
		}
		readsNot(t, append(slices.Clone(b), b...))
		readsNot(t, b[1:])
	}
}

// P17.3: with any byte changed it is another state, or none.
func TestP17_3Changed(t *testing.T) {
	taken, refused := 0, 0
	for _, s := range []api.State{full(), one(), state.New(), edges()[5], edges()[7]} {
		b := laid(s)
		for at := range b {
			for x := range 256 {
				other := slices.Clone(b)
				other[at] = byte(x)
				if as(t, other) {
					taken++
				} else {
					refused++
				}
			}
		}
	}
	if taken < 1000 || refused < 1000 {
		t.Error("too few", taken, refused)
	}
}

// P17.3: with a byte more at any place, or one less.
func TestP17_3Shifted(t *testing.T) {
	for _, s := range []api.State{full(), one(), state.New()} {
		b := laid(s)
		for at := range b {
			as(t, slices.Delete(slices.Clone(b), at, at+1))
			for _, x := range []byte{0, 1, 2, 'a', 128, 255} {
				as(t, slices.Insert(slices.Clone(b), at, x))
			}
		}
	}
}

// parts are those of the record of one, each number, flag and text by itself.
func parts() [][]byte {
	var l [][]byte
	for _, x := range []string{"\x01", "a", "\x00", "\x02", "\x01", "\x01", "\x01", "a", "\x00", "\x01", "\x01", "\x01", "\x01", "\x13"} {
		l = append(l, []byte(x))
	}
	for _, x := range []string{"\x01", "\x05", "k0000", "\x01", "\x01", "1", "\x01", "\x01", "2", "\x01", "\x01", "3"} {
		l = append(l, []byte(x))
	}
	l[13] = nums(nil, uint64(len(bytes.Join(l[14:], nil))))
	return l
}

// P17.3: each number of a record, written longer than it must be or with more bits than there are; those of the clashes in a text that is so much longer.
func TestP17_3LongNumbers(t *testing.T) {
	whole := parts()
	reads(t, bytes.Join(whole, nil), one())
	for at, part := range whole {
		if part[0] >= ' ' {
			continue // a text
		}
		var longer [][]byte
		for more := 1; more < 12; more++ {
			long := bytes.Repeat([]byte{128}, more)
			long[0] |= part[0]
			longer = append(longer, append(long, 0))
		}
		for _, wide := range []string{"\xff\xff\xff\xff\xff\xff\xff\xff\xff\x02", "\xff\xff\xff\xff\xff\xff\xff\xff\xff\x7f", "\x81\x80\x80\x80\x80\x80\x80\x80\x80\x02", "\x80\x80\x80\x80\x80\x80\x80\x80\x80\x80\x01"} {
			longer = append(longer, []byte(wide))
		}
		for _, long := range longer {
			other := slices.Clone(whole)
			other[at] = long
			if at > 13 {
				other[13] = nums(nil, uint64(len(bytes.Join(other[14:], nil))))
			}
			readsNot(t, bytes.Join(other, nil))
		}
	}
}

// P17.3: counts of Refs, of Made and of clashes that aren't how many there are, and sizes of texts likewise.
func TestP17_3Counts(t *testing.T) {
	whole := parts()
	for _, at := range []int{0, 5, 6, 10, 13, 14, 15} {
		for _, n := range []uint64{0, 1, 2, 3, 4, 5, 18, 19, 20, 21, 39, 40, 41, 42, 127, 128, 199, 200, 201, 202, 1000, 1001, 1 << 16, 131072, 131073, 1 << 31, 1 << 32, 1<<32 + 1, 1 << 62, 1 << 63, 1<<63 + 1, top - 1, top} {
			other := slices.Clone(whole)
			other[at] = nums(nil, n)
			if n == uint64(whole[at][0]) {
				continue
			}
			readsNot(t, bytes.Join(other, nil))
		}
	}
	// As many as are told, but that is too many.
	for _, many := range []int{41, 42, 128, 1000} {
		s := one()
		s.Refs, s.Head = manyRefs(many), "r000"
		readsNot(t, laid(s))
	}
	for _, many := range []int{201, 202, 1000, 5000} {
		s := one()
		s.Made, s.Next = manyMade(many), top
		readsNot(t, laid(s))
	}
}

// P17.3: a flag is 0 or 1.
func TestP17_3Flags(t *testing.T) {
	whole := parts()
	for n := range uint64(300) {
		other := slices.Clone(whole)
		other[8] = nums(nil, n)
		if n > 0 {
			readsNot(t, bytes.Join(other, nil)) // 1: then the Head is a tag
		}
		s := full()
		b := laid(s)
		at := bytes.Index(b, []byte("\x02v1\x01")) + 3
		if n < 128 {
			b[at] = byte(n)
		} else {
			b = slices.Replace(b, at, at+1, nums(nil, n)...)
		}
		s.Refs[3].Tag = n == 1
		if n < 2 {
			reads(t, b, s)
		} else {
			readsNot(t, b)
		}
	}
}

// P17.3: names of all sizes, of the Head and of a Ref.
func TestP17_3Names(t *testing.T) {
	for _, size := range []int{0, 1, 2, 19, 20, 21, 22, 127, 128, 1000, 131072, 131073, 1 << 20} {
		name := strings.Repeat("z", size)
		s := state.New()
		s.Refs = append(s.Refs, branch(name, 0))
		if as(t, laid(s)) != (size > 0 && size <= 20) {
			t.Error(size)
		}
		s.Head = name
		if as(t, laid(s)) != (size > 0 && size <= 20) {
			t.Error(size)
		}
		s.Refs = s.Refs[:1]
		readsNot(t, laid(s))
	}
}

// P17.3: a text of clashes that are none, though the state is right without them.
func TestP17_3Clashes(t *testing.T) {
	good := string(laidClashes(clashes(2)))
	swapped := clashes(2)
	slices.Reverse(swapped)
	for _, pending := range []uint64{0, 3} {
		s := full()
		s.Pending = pending
		b := ahead(s)
		for _, none := range []string{"", "\x01", "\x00\x00", "\x80\x00", "\x80", "abc", good[:len(good)-1], good + "\x00", good[1:], good + good, string(laidClashes(clashes(1001))), string(laidClashes(swapped)), string(laidClashes([]api.Clash{{}})), string(laidClashes([]api.Clash{{Key: "a"}})), string(laidClashes([]api.Clash{{Key: "a", Base: api.Side{Val: "1"}, Ours: has("1"), Theirs: has("2")}}))} {
			readsNot(t, text(slices.Clone(b), none))
		}
		readsNot(t, b)
		if as(t, text(slices.Clone(b), good)) != (pending == 3) || !as(t, text(slices.Clone(b), "\x00")) {
			t.Error(pending)
		}
	}
	// Of all short texts only that of no clashes is one.
	b := ahead(full())
	for x := range 256 {
		if as(t, text(slices.Clone(b), string([]byte{byte(x)}))) != (x == 0) {
			t.Error(x)
		}
		for y := range 256 {
			readsNot(t, text(slices.Clone(b), string([]byte{byte(x), byte(y)})))
		}
	}
}

// P17.3: several faults at once, in the record, in the clashes and in the state: all are the same error.
func TestP17_3Several(t *testing.T) {
	for _, spoil := range faults() {
		s := full()
		spoil(&s)
		b := laid(s)
		readsNot(t, b[:len(b)-1])
		readsNot(t, append(slices.Clone(b), 1))
		readsNot(t, text(ahead(s), "\x01"))
		readsNot(t, append(text(ahead(s), ""), 0))
	}
}

func TestP17_4Every(t *testing.T) {
	every(func(s api.State) {
		if meant(s) {
			puts(t, s, laid(s))
		} else {
			putsNot(t, s)
		}
	})
}

func TestP17_4Chance(t *testing.T) {
	r := rand.New(rand.NewSource(4))
	fair := 0
	for range 5000 {
		s := chance(r)
		if meant(s) {
			puts(t, s, laid(s))
			fair++
		} else {
			putsNot(t, s)
		}
	}
	if fair < 1000 {
		t.Error("too few", fair)
	}
}

// P17.4: changes of each thing, which are read back where the state stays right.
func TestP17_4Changes(t *testing.T) {
	fair := 0
	for _, change := range changes() {
		s := full()
		change(&s)
		if meant(s) {
			puts(t, s, laid(s))
			fair++
		} else {
			putsNot(t, s)
		}
	}
	if fair < 20 {
		t.Error("too few", fair)
	}
}

// P17.3 of bytes by chance, some of them nearly records.
func TestP17_3Bytes(t *testing.T) {
	r := rand.New(rand.NewSource(3))
	taken, refused := 0, 0
	for range 50_000 {
		s := state.New()
		if r.Intn(2) == 0 {
			s = one()
		}
		b := laid(s)
		for range r.Intn(3) {
			b[r.Intn(len(b))] = byte(r.Intn(5))
		}
		if as(t, b) {
			taken++
		} else {
			refused++
		}
		for i := range b {
			b[i] = byte(r.Intn(256))
		}
		as(t, b)
	}
	if taken < 1000 || refused < 1000 {
		t.Error("too few", taken, refused)
	}
}

// P2: what was handed in or out may be changed without a change elsewhere.
func TestP17_3PutMemory(t *testing.T) {
	s := full()
	s.Refs = append(s.Refs, branch("behind", 9))[:5]
	s.Made = append(s.Made, made(99, 9))[:4]
	s.Clashes = append(s.Clashes, api.Clash{Key: "behind"})[:3]
	want := laid(full())
	first, _ := state.Put(s)
	second, _ := state.Put(s)
	clear(first[:cap(first)])
	if !bytes.Equal(second, want) || !like(s, full()) {
		t.Fatal("Put shares memory, or changed its state")
	}
	if s.Refs[:6][5].Name != "behind" || s.Made[:5][4].Id != 99 || s.Clashes[:4][3].Key != "behind" {
		t.Fatal("Put wrote behind a list's length")
	}
	clear(s.Refs)
	clear(s.Made)
	clear(s.Clashes)
	if !bytes.Equal(second, want) {
		t.Fatal("Put shares its argument's memory")
	}
}

func TestP17_3OfMemory(t *testing.T) {
	want := laid(full())
	b := append(slices.Clone(want), "behind"...)[:len(want)]
	one, _ := state.Of(b)
	two, _ := state.Of(b)
	if !bytes.Equal(b[:len(b)+6], append(slices.Clone(want), "behind"...)) {
		t.Fatal("Of changed its bytes")
	}
	clear(b)
	if !like(one, full()) {
		t.Fatal("Of shares its argument's memory")
	}
	clear(one.Refs[:cap(one.Refs)])
	clear(one.Made[:cap(one.Made)])
	clear(one.Clashes[:cap(one.Clashes)])
	if !like(two, full()) {
		t.Fatal("two answers share memory")
	}
	// What is handed out has room of its own.
	two.Refs = append(two.Refs, branch("zz", 1))
	two.Made = append(two.Made, made(8, 8))
	two.Clashes = append(two.Clashes, api.Clash{Key: "zz"})
	if three, _ := state.Of(want); !like(three, full()) {
		t.Fatal(three)
	}
}

func FuzzOf(f *testing.F) {
	for _, s := range []api.State{full(), one(), state.New(), edges()[5], edges()[7]} {
		f.Add(laid(s))
	}
	f.Fuzz(func(t *testing.T, b []byte) { as(t, b) })
}
