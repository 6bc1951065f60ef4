package graph

import (
	"maps"
	"slices"

	"apograph/api"
)

// commits are some, by their Ids.
type commits map[uint64]api.Commit

// ids rise.
func (m commits) ids() []uint64 {
	return slices.Sorted(maps.Keys(m))
}

// gen is the Gen that a commit with these Parents must have, if all of them are there.
func (m commits) gen(parents []uint64) (uint64, bool) {
	greatest := uint64(0)
	for _, p := range parents {
		c, is := m[p]
		if !is {
			return 0, false
		}
		greatest = max(greatest, c.Gen)
	}
	return greatest + 1, true
}

// ancestors are those of all of ids that are there. What waits stands in a list, as a long line of commits would nest calls too deep.
func (m commits) ancestors(ids ...uint64) commits {
	found := commits{}
	waiting := slices.Clone(ids)
	for len(waiting) > 0 {
		last := len(waiting) - 1
		id := waiting[last]
		waiting = waiting[:last]
		c, is := m[id]
		if _, had := found[id]; is && !had {
			found[id] = c
			waiting = append(waiting, c.Parents...)
		}
	}
	return found
}

// own is a commit with Parents of its own.
func own(c api.Commit) api.Commit {
	c.Parents = append([]uint64(nil), c.Parents...)
	return c
}
