package diff

import (
	"apograph/api"
	"apograph/chunk"
	"apograph/tree"
)

// cursor stands ahead of the entries of a side that are left.
type cursor struct {
	rest []api.Entry
}

// key is the next entry's, if there is one.
func (c *cursor) key() (string, bool) {
	if len(c.rest) == 0 {
		return "", false
	}
	return c.rest[0].Key, true
}

// take is what the side has of a key; the cursor goes past that.
func (c *cursor) take(key string) api.Side {
	if k, is := c.key(); !is || k != key {
		return api.Side{}
	}
	v := c.rest[0].Val
	c.rest = c.rest[1:]
	return api.Side{Has: true, Val: v}
}

// least is the lesser of the keys that two sides stand at, if one of them has one.
func least(x, y func() (string, bool)) (string, bool) {
	a, is := x()
	b, other := y()
	if !is || other && b < a {
		return b, other
	}
	return a, true
}

// without is those leaves of a list that another hasn't.
func without(l, other []api.Kid) []api.Kid {
	has := map[api.Kid]struct{}{}
	for _, k := range other {
		has[k] = struct{}{}
	}
	var out []api.Kid
	for _, k := range l {
		if _, is := has[k]; !is {
			out = append(out, k)
		}
	}
	return out
}

// entries loads leaves. What has kids is no leaf, though one above it tells it as one.
func entries(s *chunk.Store, l []api.Kid) ([]api.Entry, api.Errno) {
	var out []api.Entry
	for _, k := range l {
		n, e := tree.Load(s, k.Id)
		if e != api.OK {
			return nil, e
		}
		if n.Level != 0 {
			return nil, api.ErrNode
		}
		out = append(out, n.Entries...)
	}
	return out, api.OK
}
