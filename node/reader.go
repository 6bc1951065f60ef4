package node

import (
	"math"

	"apograph/api"
	"apograph/pack"
)

// least is how many bytes an entry or a kid has at least: two of a key, one of what is behind it.
const least = 3

// reader reads the parts of a node. Once it has failed it tells zero values.
type reader struct {
	*pack.Reader
}

func (r reader) node() api.Node {
	n := api.Node{Level: int(r.Num(top))}
	if n.Level == 0 {
		n.Entries = each(r, reader.entry)
	} else {
		n.Kids = each(r, reader.kid)
	}
	return n
}

func (r reader) entry() api.Entry {
	key := r.Text(api.MaxKey)
	return api.Entry{Key: key, Val: r.Text(api.MaxVal)}
}

func (r reader) kid() api.Kid {
	last := r.Text(api.MaxKey)
	return api.Kid{Last: last, Id: r.Num(math.MaxUint64)}
}

// each reads as many parts as are told, which can't be more than there are bytes for: so no number, however great, takes long.
func each[T any](r reader, part func(reader) T) []T {
	var l []T
	for range r.Num(uint64(r.Left() / least)) {
		l = append(l, part(r))
	}
	return l
}
