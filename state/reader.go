package state

import (
	"math"

	"apograph/api"
	"apograph/conflict"
	"apograph/pack"
)

// reader reads the parts of a record. Once it has failed it tells zero values.
type reader struct {
	*pack.Reader
}

// state has an error of its own for the clashes, which are a record within the record.
func (r reader) state() (api.State, api.Errno) {
	s := api.State{Head: r.Text(api.MaxName)}
	s.Work, s.Next, s.Pending = r.number(), r.number(), r.number()
	s.Refs = list(r.Num(api.MaxRefs), r.ref)
	s.Made = list(r.Num(api.MaxCommits), r.made)
	// As many clashes as may be are longer than a text of pages, so that their text has no bound here.
	l, e := conflict.Of([]byte(r.Text(math.MaxInt)))
	s.Clashes = l
	return s, e
}

func (r reader) ref() api.Ref {
	name := r.Text(api.MaxName)
	tag := r.Flag()
	return api.Ref{Name: name, Tag: tag, Id: r.number()}
}

func (r reader) made() api.Made {
	id := r.number()
	return api.Made{Id: id, Chunk: r.number()}
}

func (r reader) number() uint64 {
	return r.Num(math.MaxUint64)
}

// list is so many parts, one behind the other.
func list[T any](many uint64, part func() T) []T {
	var l []T
	for range many {
		l = append(l, part())
	}
	return l
}
