package work_test

import (
	"encoding/binary"
	"fmt"
	"hash/fnv"
	"maps"
	"slices"
	"strconv"
	"strings"
	"testing"

	"apograph/api"
	"apograph/chunk"
	"apograph/dev"
	"apograph/tree"
	"apograph/work"
)

func put(key, val string) api.Edit {
	return api.Edit{Key: key, Val: val}
}

func gone(key string) api.Edit {
	return api.Edit{Key: key, Gone: true}
}

// of is entries by words such as "a=1".
func of(words ...string) []api.Entry {
	var l []api.Entry
	for _, w := range words {
		k, v, _ := strings.Cut(w, "=")
		l = append(l, api.Entry{Key: k, Val: v})
	}
	return l
}

// many is n entries with keys that rise.
func many(n int) []api.Entry {
	var l []api.Entry
	for i := range n {
		l = append(l, api.Entry{Key: fmt.Sprintf("k%04d", 3*i), Val: strconv.Itoa(i)})
	}
	return l
}

// ends tells by the library's FNV-1a whether a key Ends.
func ends(level int, key string) bool {
	h := fnv.New64a()
	h.Write([]byte{byte(level)})
	h.Write([]byte(key))
	return level < 20 && h.Sum64()/1024%4 == 0
}

// laid is the text of a node, its numbers made by the library.
func laid(n api.Node) string {
	b := binary.AppendUvarint(nil, uint64(n.Level))
	b = binary.AppendUvarint(b, uint64(len(n.Entries)+len(n.Kids)))
	text := func(s string) {
		b = binary.AppendUvarint(b, uint64(len(s)))
		b = append(b, s...)
	}
	for _, x := range n.Entries {
		text(x.Key)
		text(x.Val)
	}
	for _, k := range n.Kids {
		text(k.Last)
		b = binary.AppendUvarint(b, k.Id)
	}
	return string(b)
}

// values is a map of the language of entries.
func values(l []api.Entry) map[string]string {
	m := map[string]string{}
	for _, x := range l {
		m[x.Key] = x.Val
	}
	return m
}

func sorted(m map[string]string) []api.Entry {
	var l []api.Entry
	for _, k := range slices.Sorted(maps.Keys(m)) {
		l = append(l, api.Entry{Key: k, Val: m[k]})
	}
	return l
}

// done is a map with edits done in order, by a map of the language.
func done(l []api.Entry, edits ...api.Edit) []api.Entry {
	m := values(l)
	for _, x := range edits {
		if x.Gone {
			delete(m, x.Key)
		} else {
			m[x.Key] = x.Val
		}
	}
	return sorted(m)
}

// wrong is what the first edit that may not be is told.
func wrong(edits []api.Edit) api.Errno {
	for _, x := range edits {
		if len(x.Key) < 1 || len(x.Key) > 40 {
			return api.ErrKey
		}
		if !x.Gone && len(x.Val) > 200 {
			return api.ErrValue
		}
	}
	return api.OK
}

// within is the first most entries (0: all) from lo on and below hi (empty: no end).
func within(l []api.Entry, lo, hi string, most int) []api.Entry {
	var out []api.Entry
	for _, x := range l {
		if x.Key >= lo && (hi == "" || x.Key < hi) && (most == 0 || len(out) < most) {
			out = append(out, x)
		}
	}
	return out
}

// unlike is what two maps differ in, key by key.
func unlike(a, b []api.Entry) []api.Change {
	x, y := values(a), values(b)
	all := maps.Clone(x)
	maps.Copy(all, y)
	var l []api.Change
	for _, k := range slices.Sorted(maps.Keys(all)) {
		was, had := x[k]
		now, has := y[k]
		if had != has || was != now {
			l = append(l, api.Change{Key: k, Had: had, Was: was, Has: has, Now: now})
		}
	}
	return l
}

// bench is a store, with what it is meant to hold: each text once, by rising numbers, and of each root its map.
type bench struct {
	*testing.T
	d     *dev.Dev
	s     *chunk.Store
	texts []string
	ids   map[string]uint64
	maps  map[uint64][]api.Entry
	held  int // texts that the store was asked for already
}

func newBench(t *testing.T, pages int) *bench {
	t.Helper()
	d := dev.New(4 * pages)
	s, e := chunk.Open(d)
	if e != api.OK {
		t.Fatal(e)
	}
	return &bench{T: t, d: d, s: s, ids: map[string]uint64{}, maps: map[uint64][]api.Entry{0: nil}}
}

// wide is one whose store doesn't get full.
func wide(t *testing.T) *bench {
	t.Helper()
	return newBench(t, 16384)
}

// text puts a text on the bench's side.
func (b *bench) text(s string) uint64 {
	if b.ids[s] == 0 {
		b.texts = append(b.texts, s)
		b.ids[s] = uint64(len(b.texts))
	}
	return b.ids[s]
}

// meant puts a map's tree on the bench's side, and tells its root.
func (b *bench) meant(l []api.Entry) uint64 {
	var kids []api.Kid
	var n api.Node
	for i, x := range l {
		n.Entries = append(n.Entries, x)
		if ends(0, x.Key) || i == len(l)-1 {
			kids = append(kids, api.Kid{Last: x.Key, Id: b.text(laid(n))})
			n = api.Node{}
		}
	}
	for level := 1; len(kids) > 1; level++ {
		var above []api.Kid
		n := api.Node{Level: level}
		for i, k := range kids {
			n.Kids = append(n.Kids, k)
			if ends(level, k.Last) || i == len(kids)-1 {
				above = append(above, api.Kid{Last: k.Last, Id: b.text(laid(n))})
				n.Kids = nil
			}
		}
		kids = above
	}
	if len(kids) == 0 {
		return 0
	}
	b.maps[kids[0].Id] = l
	return kids[0].Id
}

// puts puts a text in the store, whatever it is.
func (b *bench) puts(text string) uint64 {
	b.Helper()
	id, e := b.s.Put([]byte(text))
	if e != api.OK || id != b.text(text) {
		b.Fatal(id, e)
	}
	return id
}

// builds builds a map of any size.
func (b *bench) builds(l []api.Entry) uint64 {
	b.Helper()
	root, e := tree.Build(b.s, l)
	if e != api.OK || root != b.meant(l) {
		b.Fatal(root, e)
	}
	b.holds()
	return root
}

// holds asks for a store with just the texts that are meant; of those that it was asked for already, only that there are no more. What the device has cached is kept, as each read goes through it.
func (b *bench) holds() {
	b.Helper()
	b.d.Flush()
	n := 0
	for range b.s.Ids() {
		n++
	}
	if n != len(b.texts) {
		b.Fatalf("%d chunks, not %d", n, len(b.texts))
	}
	for ; b.held < n; b.held++ {
		if got, e := b.s.Get(uint64(b.held) + 1); e != api.OK || string(got) != b.texts[b.held] {
			b.Fatalf("chunk %d: %q, %d, not %q", b.held+1, got, e, b.texts[b.held])
		}
	}
}

// all asks for all texts, and for the map of each root.
func (b *bench) all() {
	b.Helper()
	b.held = 0
	b.holds()
	for root, l := range b.maps {
		b.scans(root, "", "", 0, l)
	}
}

// answered asks that a call that works on a root had this answer, and put what is meant.
func (b *bench) answered(root uint64, e api.Errno, want uint64, fault api.Errno) uint64 {
	b.Helper()
	if root != want || e != fault {
		b.Fatalf("%d, %d, not %d, %d", root, e, want, fault)
	}
	b.holds()
	return root
}

// next is what is told of a map that comes of edits, whose tree is put.
func (b *bench) next(root uint64, edits []api.Edit) (uint64, api.Errno) {
	if e := wrong(edits); e != api.OK {
		return 0, e
	}
	l := done(b.maps[root], edits...)
	id := b.meant(l)
	if len(l) > 400 {
		return 0, api.ErrMany
	}
	return id, api.OK
}

func (b *bench) does(root uint64, edits ...api.Edit) uint64 {
	b.Helper()
	was := slices.Clone(edits)
	want, fault := b.next(root, edits)
	id, e := work.Do(b.s, root, edits)
	if !slices.Equal(edits, was) {
		b.Fatal("the edits were changed")
	}
	return b.answered(id, e, want, fault)
}

func (b *bench) sets(root uint64, key, val string) uint64 {
	b.Helper()
	want, fault := b.next(root, []api.Edit{put(key, val)})
	id, e := work.Put(b.s, root, key, val)
	return b.answered(id, e, want, fault)
}

func (b *bench) takes(root uint64, key string) uint64 {
	b.Helper()
	want, fault := b.goes(root, key)
	id, e := work.Del(b.s, root, key)
	return b.answered(id, e, want, fault)
}

// goes is what is told of a key that goes.
func (b *bench) goes(root uint64, key string) (uint64, api.Errno) {
	if e := wrong([]api.Edit{gone(key)}); e != api.OK {
		return 0, e
	}
	if _, is := values(b.maps[root])[key]; !is {
		return 0, api.ErrNone
	}
	return b.next(root, []api.Edit{gone(key)})
}

// scans asks Scan for these entries.
func (b *bench) scans(root uint64, lo, hi string, most int, want []api.Entry) {
	b.Helper()
	if l, e := work.Scan(b.s, root, lo, hi, most); e != api.OK || !slices.Equal(l, want) {
		b.Fatalf("Scan of %d from %q to %q, %d: %v, %d, not %v", root, lo, hi, most, l, e, want)
	}
}

// differs asks Status for what the maps of two roots differ in, both ways round.
func (b *bench) differs(x, y uint64) {
	b.Helper()
	for _, r := range [][2]uint64{{x, y}, {y, x}} {
		want := unlike(b.maps[r[0]], b.maps[r[1]])
		if l, e := work.Status(b.s, r[0], r[1]); e != api.OK || !slices.Equal(l, want) {
			b.Fatalf("Status of %d and %d: %v, %d, not %v", r[0], r[1], l, e, want)
		}
	}
	b.holds()
}
