package tree

import (
	"slices"
	"strings"

	"apograph/api"
	"apograph/node"
)

// builder puts the nodes of a tree. Had are leaves that are there, by their last keys: they keep their numbers, and aren't put.
type builder struct {
	put func(b []byte) (uint64, api.Errno)
	had map[string]leaf
}

// build is the root of the tree of entries whose keys rise. It ends at level 20, at which Group tells one row. With an error there are no kids.
func (b builder) build(l []api.Entry) (uint64, api.Errno) {
	kids, e := b.leaves(l)
	for level := 1; e == api.OK && len(kids) > 1; level++ {
		kids, e = b.above(level, kids)
	}
	if len(kids) == 0 {
		return 0, e
	}
	return kids[0].Id, api.OK
}

func (b builder) leaves(l []api.Entry) ([]api.Kid, api.Errno) {
	var kids []api.Kid
	for _, row := range node.Split(l) {
		k, e := b.leaf(row)
		if e != api.OK {
			return nil, e
		}
		kids = append(kids, k)
	}
	return kids, api.OK
}

func (b builder) leaf(l []api.Entry) (api.Kid, api.Errno) {
	n := api.Node{Entries: l}
	if x, is := b.had[node.Last(n)]; is && slices.Equal(x.entries, l) {
		return api.Kid{Last: x.last(), Id: x.id}, api.OK
	}
	return b.node(n)
}

// above is the nodes of a level over all nodes of the one below it.
func (b builder) above(level int, l []api.Kid) ([]api.Kid, api.Errno) {
	var kids []api.Kid
	for _, row := range node.Group(level, l) {
		k, e := b.node(api.Node{Level: level, Kids: row})
		if e != api.OK {
			return nil, e
		}
		kids = append(kids, k)
	}
	return kids, api.OK
}

func (b builder) node(n api.Node) (api.Kid, api.Errno) {
	text, e := node.Put(n)
	if e != api.OK {
		return api.Kid{}, e
	}
	id, e := b.put(text)
	if e != api.OK {
		return api.Kid{}, e
	}
	return api.Kid{Last: node.Last(n), Id: id}, api.OK
}

func rise(l []api.Entry) bool {
	for i := 1; i < len(l); i++ {
		if l[i-1].Key >= l[i].Key {
			return false
		}
	}
	return true
}

// edited is entries with the edits done in order: what an entry says comes ahead of all edits, and of each key the last word counts.
func edited(l []api.Entry, edits []api.Edit) []api.Entry {
	words := make([]api.Edit, 0, len(l)+len(edits))
	for _, x := range l {
		words = append(words, api.Edit{Key: x.Key, Val: x.Val})
	}
	words = append(words, edits...)
	slices.SortStableFunc(words, func(a, b api.Edit) int { return strings.Compare(a.Key, b.Key) })
	var out []api.Entry
	for i, x := range words {
		if i+1 < len(words) && words[i+1].Key == x.Key || x.Gone {
			continue
		}
		out = append(out, api.Entry{Key: x.Key, Val: x.Val})
	}
	return out
}
