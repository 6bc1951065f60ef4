package conflict

import (
	"apograph/api"
	"apograph/node"
)

// clash is a clash of which a side can be chosen.
type clash api.Clash

func (c clash) base() api.Side   { return c.Base }
func (c clash) ours() api.Side   { return c.Ours }
func (c clash) theirs() api.Side { return c.Theirs }

// choice is what tells the side that is settled for; nil, if there is no such way.
func choice(how int) func(clash) api.Side {
	switch how {
	case api.Ours:
		return clash.ours
	case api.Theirs:
		return clash.theirs
	case api.Base:
		return clash.base
	}
	return nil
}

// sides are those of a clash, in the order of its fields.
func sides(c api.Clash) [3]api.Side {
	return [3]api.Side{c.Base, c.Ours, c.Theirs}
}

// texts tells the first key or value that may not be.
func texts(c api.Clash) api.Errno {
	if e := node.Key(c.Key); e != api.OK {
		return e
	}
	for _, x := range sides(c) {
		if e := node.Val(x.Val); e != api.OK {
			return e
		}
		if !x.Has && x.Val != "" {
			return api.ErrValue
		}
	}
	return api.OK
}

// unlike tells whether no two sides are the same. A side without a value must have no Val (see texts), as it is held against others whole.
func unlike(c api.Clash) bool {
	return c.Ours != c.Theirs && c.Ours != c.Base && c.Theirs != c.Base
}
