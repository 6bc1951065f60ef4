package conflict

import (
	"apograph/api"
	"apograph/pack"
)

// reader reads the parts of a record. Once it has failed it tells zero values.
type reader struct {
	*pack.Reader
}

func (r reader) clashes() []api.Clash {
	var l []api.Clash
	for range r.Num(most) {
		l = append(l, r.clash())
	}
	return l
}

func (r reader) clash() api.Clash {
	c := api.Clash{Key: r.Text(api.MaxKey)}
	c.Base, c.Ours, c.Theirs = r.side(), r.side(), r.side()
	return c
}

func (r reader) side() api.Side {
	has := r.Flag()
	return api.Side{Has: has, Val: r.Text(api.MaxVal)}
}
