package tree

import (
	"iter"
	"slices"
	"strings"

	"apograph/api"
	"apograph/node"
)

// loader is how a store tells its chunks.
type loader func(id uint64) ([]byte, api.Errno)

func (load loader) node(id uint64) (api.Node, api.Errno) {
	b, e := load(id)
	if e != api.OK {
		return api.Node{}, e
	}
	return node.Of(b)
}

// leaf is a node of level 0 with its number.
type leaf struct {
	id      uint64
	entries []api.Entry
}

func (x leaf) last() string {
	return node.Last(api.Node{Entries: x.entries})
}

// leaves tells the leaves of a tree from the left; at the first error that, and no more.
func (load loader) leaves(root uint64) iter.Seq2[leaf, api.Errno] {
	return func(yield func(leaf, api.Errno) bool) {
		if root == 0 {
			return
		}
		n, e := load.node(root)
		if e != api.OK {
			yield(leaf{}, e)
			return
		}
		load.under(root, n, yield)
	}
}

// under tells the leaves of a node, and whether more are wanted. It ends since each child's level is one less.
func (load loader) under(id uint64, n api.Node, yield func(leaf, api.Errno) bool) bool {
	if n.Level == 0 {
		return yield(leaf{id: id, entries: n.Entries}, api.OK)
	}
	for _, k := range n.Kids {
		m, e := load.told(k, n.Level-1)
		if e != api.OK {
			yield(leaf{}, e)
			return false
		}
		if !load.under(k.Id, m, yield) {
			return false
		}
	}
	return true
}

// told is a child that must be as its parent tells.
func (load loader) told(k api.Kid, level int) (api.Node, api.Errno) {
	n, e := load.node(k.Id)
	if e != api.OK {
		return api.Node{}, e
	}
	if n.Level != level || node.Last(n) != k.Last {
		return api.Node{}, api.ErrNode
	}
	return n, api.OK
}

// child is the number of the first child that may have the key, or 0.
func child(l []api.Kid, key string) uint64 {
	at, _ := slices.BinarySearchFunc(l, key, func(k api.Kid, key string) int {
		return strings.Compare(k.Last, key)
	})
	if at == len(l) {
		return 0
	}
	return l[at].Id
}

func value(l []api.Entry, key string) (string, bool) {
	at, is := slices.BinarySearchFunc(l, key, func(x api.Entry, key string) int {
		return strings.Compare(x.Key, key)
	})
	if !is {
		return "", false
	}
	return l[at].Val, true
}

// set is numbers of nodes.
type set map[uint64]struct{}

// add tells whether the number is new.
func (m set) add(id uint64) bool {
	_, is := m[id]
	m[id] = struct{}{}
	return !is
}

// fill adds all nodes of a tree. One that is there is passed by with all that is under it, so that it ends, however often nodes stand in the tree.
func (m set) fill(load loader, id uint64) api.Errno {
	if !m.add(id) {
		return api.OK
	}
	n, e := load.node(id)
	if e != api.OK {
		return e
	}
	for _, k := range n.Kids {
		if e := m.fill(load, k.Id); e != api.OK {
			return e
		}
	}
	return api.OK
}

// finder looks for leaves without loading them, but for a root that is one: whoever compares trees skips those that both have.
type finder struct {
	load  loader
	way   set // from the root down to where it looks: a node that stands under itself is no tree's
	found []api.Kid
}

func (f *finder) down(id uint64) api.Errno {
	n, e := f.load.node(id)
	if e != api.OK {
		return e
	}
	switch n.Level {
	case 0:
		f.found = append(f.found, api.Kid{Last: node.Last(n), Id: id})
		return api.OK
	case 1:
		f.found = append(f.found, n.Kids...)
		return api.OK
	}
	if !f.way.add(id) {
		return api.ErrNode
	}
	for _, k := range n.Kids {
		if e := f.down(k.Id); e != api.OK {
			return e
		}
	}
	delete(f.way, id)
	return api.OK
}
