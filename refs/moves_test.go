package refs_test

import (
	"math/rand"
	"slices"
	"strings"
	"testing"

	"apograph/api"
	"apograph/refs"
)

// meant is a Table as the chapter means it: a list that is gone through for each name.
type meant []api.Ref

func (m meant) place(name string) int {
	return slices.IndexFunc(m, func(r api.Ref) bool { return r.Name == name })
}

// may tells which names may be: what isn't among these is cut out, and nothing may be missing then.
func may(s string) bool {
	cut := strings.Map(func(r rune) rune {
		if strings.ContainsRune(within, r) {
			return r
		}
		return -1
	}, s)
	return cut == s && len(s) <= 20 && strings.IndexAny(s, letters) == 0
}

func (m *meant) make(r api.Ref) api.Errno {
	switch {
	case !may(r.Name):
		return api.ErrName
	case m.place(r.Name) >= 0:
		return api.ErrThere
	case len(*m) == 40:
		return api.ErrMany
	}
	*m = append(*m, r)
	return api.OK
}

func (m meant) set(name string, old, id uint64) api.Errno {
	at := m.place(name)
	switch {
	case at < 0:
		return api.ErrRef
	case m[at].Tag:
		return api.ErrHead
	case m[at].Id != old:
		return api.ErrStale
	}
	m[at].Id = id
	return api.OK
}

func (m *meant) drop(name string) api.Errno {
	at := m.place(name)
	if at < 0 {
		return api.ErrRef
	}
	*m = slices.Delete(*m, at, at+1)
	return api.OK
}

// step is a Table and what is meant by it, and a Copy that must stay what it was.
type step struct {
	x, copied *refs.Table
	m, was    meant
}

func begin() *step {
	x := refs.New()
	return &step{x: x, copied: x.Copy()}
}

// do is one move: a kind, a name and two Ids.
func (s *step) do(t *testing.T, kind int, name string, old, id uint64) {
	t.Helper()
	switch kind {
	case 0:
		makes(t, s.x, branch(name, id), s.m.make(branch(name, id)))
	case 1:
		makes(t, s.x, tag(name, id), s.m.make(tag(name, id)))
	case 2:
		sets(t, s.x, name, old, id, s.m.set(name, old, id))
	case 3:
		drops(t, s.x, name, s.m.drop(name))
	case 4:
		s.copied, s.was = s.x.Copy(), slices.Clone(s.m)
	case 5: // what was copied goes on, and what it was copied from stays
		s.x, s.copied, s.m, s.was = s.copied, s.x, s.was, s.m
	case 6:
		s.x = refs.New(s.m...)
	}
}

func (s *step) alike(t *testing.T) {
	t.Helper()
	holds(t, s.x, s.m...)
	holds(t, s.copied, s.was...)
}

// P16.1 to P16.3: all rows of four moves of two names, with Ids of two sorts.
func TestP16_2Every(t *testing.T) {
	type move struct {
		kind    int
		name    string
		old, id uint64
	}
	moves := []move{
		{0, "a", 0, 0}, {0, "a", 0, 1}, {1, "a", 0, 0}, {1, "a", 0, 1}, {2, "a", 0, 1}, {2, "a", 1, 0}, {2, "a", 1, 1}, {3, "a", 0, 0},
		{0, "b", 0, 1}, {1, "b", 0, 0}, {2, "b", 1, 0}, {3, "b", 0, 0}, {0, "B", 0, 0}, {4, "", 0, 0}, {5, "", 0, 0}, {6, "", 0, 0},
	}
	rows := len(moves) * len(moves) * len(moves) * len(moves)
	for n := range rows {
		s := begin()
		for range 4 {
			m := moves[n%len(moves)]
			n /= len(moves)
			s.do(t, m.kind, m.name, m.old, m.id)
		}
		s.alike(t)
	}
}

// name is a name by a byte: mostly one of sixty, enough for a Table that is full.
func name(x byte) string {
	if x >= 240 {
		return wrong()[int(x)*7%len(wrong())]
	}
	if x >= 220 {
		return strings.Repeat("k", int(x)-219)
	}
	return string([]byte{'a' + x%5, "-0a9z"[x/5%5], 'b'})[:2+x%2]
}

// run does what the bytes say, four of them a move.
func run(t *testing.T, l []byte) int {
	s := begin()
	most := 0
	for ; len(l) >= 4; l = l[4:] {
		kind, id := int(l[0]%32), uint64(l[3]%4)
		if kind > 6 { // mostly Make: where many are there there is more to see
			kind %= 2
		}
		if l[3] >= 240 {
			id = top - id
		}
		old := uint64(l[2] % 4)
		if r, is := s.x.Get(name(l[1])); is && l[2] >= 128 {
			old = r.Id
		}
		s.do(t, kind, name(l[1]), old, id)
		s.alike(t)
		most = max(most, s.x.Len())
	}
	return most
}

func TestP16_2Moves(t *testing.T) {
	r := rand.New(rand.NewSource(16))
	full := 0
	for range 300 {
		l := make([]byte, 4*(1+r.Intn(300)))
		r.Read(l)
		if run(t, l) == 40 {
			full++
		}
	}
	if full < 20 {
		t.Error("too few Tables were full", full)
	}
}

func FuzzMoves(f *testing.F) {
	f.Add([]byte{0, 1, 0, 1, 2, 1, 128, 2, 1, 2, 0, 1, 2, 2, 1, 3, 3, 1, 0, 0, 4, 0, 0, 0, 0, 250, 0, 0, 5, 0, 0, 0, 6, 0, 0, 0})
	f.Fuzz(func(t *testing.T, l []byte) {
		if len(l) < 2000 {
			run(t, l)
		}
	})
}

func FuzzName(f *testing.F) {
	for _, s := range append(wrong(), "a", "main", "v1-0", strings.Repeat("a", 20)) {
		f.Add(s)
	}
	f.Fuzz(func(t *testing.T, s string) {
		names(t, s, may(s))
		x := refs.New(branch(s, 1))
		if !may(s) {
			holds(t, x)
			return
		}
		holds(t, x, branch(s, 1))
	})
}
