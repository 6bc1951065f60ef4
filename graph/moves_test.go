package graph_test

import (
	"math/rand"
	"slices"
	"testing"

	"apograph/api"
	"apograph/graph"
	"apograph/object"
)

// meant is a graph as the chapter means it: its commits in the order in which they came, and all that is asked is reckoned by going through all of them.
type meant []api.Commit

func (m meant) place(id uint64) int {
	return slices.IndexFunc(m, func(c api.Commit) bool { return c.Id == id })
}

func (m *meant) add(c api.Commit) api.Errno {
	if e := object.Right(c); e != api.OK {
		return e
	}
	if m.place(c.Id) >= 0 {
		return api.ErrThere
	}
	above := uint64(1)
	for _, p := range c.Parents {
		at := m.place(p)
		if at < 0 {
			return api.ErrCommit
		}
		above = max(above, (*m)[at].Gen+1)
	}
	if above != c.Gen {
		return api.ErrCommit
	}
	*m = append(*m, c)
	return api.OK
}

// ancestors marks the places of all ancestors of these, by adding Parents until nothing is added any more.
func (m meant) ancestors(ids ...uint64) []bool {
	marks := make([]bool, len(m))
	for i, c := range m {
		marks[i] = slices.Contains(ids, c.Id)
	}
	for more := true; more; {
		more = false
		for i, c := range m {
			for _, p := range c.Parents {
				if at := m.place(p); marks[i] && !marks[at] {
					marks[at], more = true, true
				}
			}
		}
	}
	return marks
}

func (m meant) marked(marks []bool) []api.Commit {
	var l []api.Commit
	for i, c := range m {
		if marks[i] {
			l = append(l, c)
		}
	}
	return l
}

func numbers(l []api.Commit) []uint64 {
	var ids []uint64
	for _, c := range l {
		ids = append(ids, c.Id)
	}
	slices.Sort(ids)
	return ids
}

func (m *meant) keep(ids []uint64) int {
	was := len(*m)
	*m = m.marked(m.ancestors(ids...))
	return was - len(*m)
}

// bases are the common ones that no other common one has among its ancestors, and the best of them.
func (m meant) bases(lines [][]bool, a, b int) ([]uint64, uint64) {
	var l []uint64
	var best api.Commit
	common := func(at int) bool { return lines[a][at] && lines[b][at] }
	for i, c := range m {
		is := common(i)
		for j := range m {
			if j != i && common(j) && lines[j][i] {
				is = false
			}
		}
		if is {
			l = append(l, c.Id)
			if c.Gen > best.Gen || c.Gen == best.Gen && c.Id < best.Id {
				best = c
			}
		}
	}
	slices.Sort(l)
	return l, best.Id
}

// log is sorted by picking the one that comes first again and again.
func (m meant) log(line []bool) []uint64 {
	var l []uint64
	rest := m.marked(line)
	for len(rest) > 0 {
		first := 0
		for i, c := range rest {
			if c.Gen > rest[first].Gen || c.Gen == rest[first].Gen && c.Id > rest[first].Id {
				first = i
			}
		}
		l = append(l, rest[first].Id)
		rest = slices.Delete(rest, first, first+1)
	}
	return l
}

// alike asks a Graph all that can be asked of one or two commits, those of m and others.
func (m meant) alike(t *testing.T, g *graph.Graph, others ...uint64) {
	t.Helper()
	holds(t, g, m...)
	var lines [][]bool
	for _, c := range m {
		lines = append(lines, m.ancestors(c.Id))
	}
	for a, one := range m {
		reaches(t, g, []uint64{one.Id}, numbers(m.marked(lines[a]))...)
		l := m.log(lines[a])
		for _, most := range []int{-1, 0, 1, len(l) / 2, len(l), len(l) + 1} {
			logsMost(t, g, one.Id, most, l[:max(0, min(most, len(l)))]...)
		}
		for b, two := range m {
			is(t, g, one.Id, two.Id, lines[b][a])
			l, best := m.bases(lines, a, b)
			bases(t, g, one.Id, two.Id, best, l...)
		}
	}
	for _, id := range others {
		if m.place(id) >= 0 {
			continue
		}
		getsNot(t, g, id)
		reaches(t, g, []uint64{id})
		logs(t, g, id)
		for _, c := range m {
			is(t, g, id, c.Id, false)
			is(t, g, c.Id, id, false)
			bases(t, g, id, c.Id, 0)
		}
	}
}

// every calls f with all graphs of so many commits whose Parents don't fall.
func every(size int, f func(meant)) {
	var grow func(m meant)
	grow = func(m meant) {
		if len(m) == size {
			f(m)
			return
		}
		id := uint64(len(m)) + 1
		grow(append(slices.Clone(m), of(id, 1)))
		for i, one := range m {
			grow(append(slices.Clone(m), of(id, one.Gen+1, one.Id)))
			for _, two := range m[i+1:] {
				grow(append(slices.Clone(m), of(id, max(one.Gen, two.Gen)+1, one.Id, two.Id)))
			}
		}
	}
	grow(nil)
}

// P15.1 to P15.6: all graphs of up to five commits, whole and behind each Keep of one or two of them.
func TestP15_6Every(t *testing.T) {
	for size := range 6 {
		many := 0
		every(size, func(m meant) {
			many++
			m.alike(t, made(t, m...), 0, 9)
			if size == 5 && many%7 != 0 {
				return
			}
			for a := range uint64(size + 2) {
				for b := range a + 1 {
					g, less := made(t, m...), slices.Clone(m)
					keeps(t, g, []uint64{a, b}, less.keep([]uint64{a, b}))
					less.alike(t, g, 0, a, b)
				}
			}
		})
		if want := []int{1, 1, 2, 8, 56, 616}[size]; many != want {
			t.Error(size, many)
		}
	}
}

// P15.2, P15.3: all graphs of six commits, the last two of them held against each other.
func TestP15_6EverySix(t *testing.T) {
	two := 0
	every(6, func(m meant) {
		g := made(t, m...)
		lines := [][]bool{m.ancestors(1), m.ancestors(2), m.ancestors(3), m.ancestors(4), m.ancestors(5), m.ancestors(6)}
		l, best := m.bases(lines, 4, 5)
		bases(t, g, 5, 6, best, l...)
		logsMost(t, g, 6, 6, m.log(lines[5])...)
		if len(l) > 1 {
			two++
		}
	})
	if two < 50 {
		t.Error("too few with two bases", two)
	}
}

// step is a Graph and what is meant by it, done to both by bytes.
type step struct {
	g *graph.Graph
	m meant
}

// pick is the number of a commit that is there, mostly, by a byte.
func (s *step) pick(x byte) uint64 {
	if len(s.m) == 0 || x%16 == 15 {
		return uint64(x) * 3
	}
	return s.m[int(x)%len(s.m)].Id
}

// commit is one that may be added, mostly: its Parents and Gen by three bytes.
func (s *step) commit(kind, x, y byte) api.Commit {
	c := api.Commit{Gen: 1, Root: uint64(x), Text: "c"}
	for _, p := range []uint64{s.pick(x), s.pick(y)}[:kind%3] {
		at := s.m.place(p)
		c.Parents = append(c.Parents, p)
		c.Id = max(c.Id, p)
		if at >= 0 {
			c.Gen = max(c.Gen, s.m[at].Gen+1)
		}
	}
	c.Id += 1 + uint64(x%8)*uint64(y%5)
	switch kind {
	case 250:
		c.Gen++
	case 251:
		c.Gen--
	case 252:
		c.Text = "\n"
	case 253:
		c.Id = s.pick(x)
	case 254:
		c.Id++
	case 255:
		c.Id <<= 40
	}
	return c
}

func (s *step) do(t *testing.T, kind, x, y byte) {
	t.Helper()
	if kind%32 == 9 {
		ids := []uint64{s.pick(x), s.pick(y), s.pick(x + y)}[:kind/32%4]
		keeps(t, s.g, ids, s.m.keep(ids))
		return
	}
	c := s.commit(kind, x, y)
	if s.m.place(c.Id) >= 0 && kind%2 == 0 {
		c.Id = slices.Max(numbers(s.m)) + 1
	}
	adds(t, s.g, c, s.m.add(c))
}

// run does what the bytes say, three of them a move.
func run(t *testing.T, l []byte) meant {
	s := &step{g: graph.New()}
	for ; len(l) >= 3; l = l[3:] {
		s.do(t, l[0], l[1], l[2])
		holds(t, s.g, s.m...)
	}
	ids := []uint64{s.pick(1), s.pick(15), s.pick(3), s.pick(1), s.pick(250)}
	reaches(t, s.g, ids, numbers(s.m.marked(s.m.ancestors(ids...)))...)
	s.m.alike(t, s.g, 0, 1, s.pick(31), top)
	return s.m
}

func TestP15_4Moves(t *testing.T) {
	r := rand.New(rand.NewSource(15))
	most := 0
	for range 400 {
		l := make([]byte, 3*(1+r.Intn(50)))
		r.Read(l)
		most = max(most, len(run(t, l)))
	}
	if most < 15 {
		t.Error("too few commits", most)
	}
}

func FuzzMoves(f *testing.F) {
	f.Add([]byte{0, 1, 1, 1, 0, 0, 1, 0, 1, 2, 1, 2, 2, 2, 1, 9, 1, 1})
	f.Add([]byte{0, 0, 0, 0, 1, 1, 2, 0, 1, 2, 1, 0, 41, 2, 2, 250, 1, 1, 252, 0, 0})
	f.Fuzz(func(t *testing.T, l []byte) {
		if len(l) < 150 {
			run(t, l)
		}
	})
}
