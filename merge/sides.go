package merge

import (
	"maps"
	"slices"

	"apograph/api"
)

// plain is a side as it may be held against others: one without a value is the same whatever its Val says.
func plain(x api.Side) api.Side {
	if !x.Has {
		return api.Side{}
	}
	return x
}

// values is what a map has, by key.
func values(l []api.Entry) map[string]api.Side {
	m := map[string]api.Side{}
	for _, x := range l {
		m[x.Key] = api.Side{Has: true, Val: x.Val}
	}
	return m
}

// changes is changes by key.
func changes(l []api.Change) map[string]api.Change {
	m := map[string]api.Change{}
	for _, x := range l {
		m[x.Key] = x
	}
	return m
}

// keys is all keys of the maps, rising, each once.
func keys[V any](all ...map[string]V) []string {
	var l []string
	for _, m := range all {
		l = slices.AppendSeq(l, maps.Keys(m))
	}
	slices.Sort(l)
	return slices.Compact(l)
}

// sides is what base, ours and theirs have of a key that theirs changed. If ours didn't change it, too, ours has what base has.
func sides(key string, ours, theirs map[string]api.Change) api.Clash {
	x := theirs[key]
	was := api.Side{Has: x.Had, Val: x.Was}
	c := api.Clash{Key: key, Base: was, Ours: was, Theirs: api.Side{Has: x.Has, Val: x.Now}}
	if y, is := ours[key]; is {
		c.Ours = api.Side{Has: y.Has, Val: y.Now}
	}
	return c
}
