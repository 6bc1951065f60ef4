package chunk

import (
	"maps"
	"slices"

	"apograph/api"
)

// chunk is where a text stands, and what it is looked for by.
type chunk struct {
	at   api.Span
	size int
	sum  uint64
}

// shelf is the chunks that are there by their numbers, and these, rising, by the sums of the texts: unlike texts may have one sum.
type shelf struct {
	chunks map[uint64]chunk
	sums   map[uint64][]uint64
}

func newShelf() shelf {
	return shelf{chunks: map[uint64]chunk{}, sums: map[uint64][]uint64{}}
}

func (f shelf) add(id uint64, c chunk) {
	f.chunks[id] = c
	l := f.sums[c.sum]
	at, _ := slices.BinarySearch(l, id)
	f.sums[c.sum] = slices.Insert(l, at, id)
}

// remove leaves no list without a number behind, or one would stay for each text that ever was there.
func (f shelf) remove(id uint64) {
	c, is := f.chunks[id]
	if !is {
		return
	}
	delete(f.chunks, id)
	l := slices.DeleteFunc(f.sums[c.sum], func(other uint64) bool { return other == id })
	if len(l) == 0 {
		delete(f.sums, c.sum)
	} else {
		f.sums[c.sum] = l
	}
}

// ids are the numbers, rising.
func (f shelf) ids() []uint64 {
	return slices.Sorted(maps.Keys(f.chunks))
}
