package chunk

import (
	"math"

	"apograph/api"
	"apograph/pack"
	"apograph/pager"
)

const maxPages = 16384 // of the greatest device

// root is what a Commit keeps besides the texts: P8.1.
func (s *Store) root(state []byte) []byte {
	w := &pack.Writer{}
	w.Num(s.next)
	w.Text(string(state))
	w.Num(uint64(len(s.all.chunks)))
	ahead := uint64(0)
	for id := range s.Ids() {
		c := s.all.chunks[id]
		w.Num(id-ahead, uint64(c.at.Start), uint64(c.size))
		ahead = id
	}
	return w.Bytes()
}

// load takes over what a root says. Whatever is ErrChunk comes ahead of what the pager answers where a text can't be read, as it is named first (P4).
func (s *Store) load(root []byte) api.Errno {
	if !s.claim(pack.Read(root)) {
		return api.ErrChunk
	}
	return s.look()
}

// claim takes over numbers and pages, and tells whether they are right. A reader that has failed tells 0, which is neither above the number ahead nor a page that is free.
func (s *Store) claim(r *pack.Reader) bool {
	s.next = r.Num(math.MaxUint64)
	s.state = []byte(r.Text(api.MaxChunk))
	if s.next == 0 {
		return false
	}
	id := uint64(0)
	for range r.Num(maxPages) {
		more := r.Num(s.next - 1 - id)
		start := int(r.Num(maxPages))
		size := int(r.Num(api.MaxChunk))
		c := chunk{at: api.Span{Start: start, Pages: pager.Need(size)}, size: size}
		if more == 0 || !s.p.Claim(c.at) {
			return false
		}
		id += more
		s.all.chunks[id] = c
	}
	return r.Done()
}

// look reads all texts, to tell whether each is there once, and to find them by their sums.
func (s *Store) look() api.Errno {
	unread := api.OK
	for id := range s.Ids() {
		b, e := s.Get(id)
		if e != api.OK {
			if unread == api.OK {
				unread = e
			}
			continue
		}
		if other, _ := s.same(b); other != 0 {
			return api.ErrChunk
		}
		c := s.all.chunks[id]
		c.sum = sum(b)
		s.all.add(id, c)
	}
	return unread
}
