package graph

import (
	"container/heap"

	"apograph/api"
)

// way goes from commits to their ancestors, as the log tells them: a Parent's Gen is less, so that whatever is met later comes behind.
type way struct {
	all  commits
	met  commits // two ways may lead to one commit
	next row
}

// meet lets those of ids that are there wait, each once.
func (w *way) meet(ids ...uint64) {
	for _, id := range ids {
		c, is := w.all[id]
		if _, had := w.met[id]; is && !had {
			w.met[id] = c
			heap.Push(&w.next, c)
		}
	}
}

// step is the next commit of those that wait, of which there must be one.
func (w *way) step() api.Commit {
	c := w.next[0]
	heap.Pop(&w.next)
	w.meet(c.Parents...)
	return c
}

// row is a heap of commits: the first one is that which the log tells first.
type row []api.Commit

func (r row) Len() int {
	return len(r)
}

func (r row) Less(i, j int) bool {
	if r[i].Gen != r[j].Gen {
		return r[i].Gen > r[j].Gen
	}
	return r[i].Id > r[j].Id
}

func (r row) Swap(i, j int) {
	r[i], r[j] = r[j], r[i]
}

func (r *row) Push(x any) {
	if c, is := x.(api.Commit); is {
		*r = append(*r, c)
	}
}

func (r *row) Pop() any {
	last := len(*r) - 1
	c := (*r)[last]
	*r = (*r)[:last]
	return c
}
