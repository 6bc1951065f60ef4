package node

import (
	"slices"

	"apograph/api"
)

// Split: P9.4.
func Split(l []api.Entry) [][]api.Entry {
	return rows(l, func(x api.Entry) bool { return ends(0, x.Key) })
}

// Group: P9.4.
func Group(level int, l []api.Kid) [][]api.Kid {
	return rows(l, func(k api.Kid) bool { return ends(level, k.Last) })
}

// rows cuts a copy of l, and leaves no row room behind it, so that an append to one doesn't reach into the next.
func rows[T any](l []T, last func(T) bool) [][]T {
	rest := slices.Clone(l)
	var cut [][]T
	size := 0
	for _, x := range l {
		size++
		if last(x) {
			cut = append(cut, rest[:size:size])
			rest, size = rest[size:], 0
		}
	}
	if size > 0 {
		cut = append(cut, rest[:size:size])
	}
	return cut
}
