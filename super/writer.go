package super

import "apograph/api"

// writer lays numbers into a sector, one behind the other, the highest byte of each first.
type writer struct {
	made [api.Sector]byte
	size int
}

// part is one number of a sector, and how it is laid there.
type part struct {
	lay func(*writer, uint64)
	n   uint64
}

// parts are the numbers of a super. Its Epoch stands at both ends: of a torn sector the ends are unlike.
func parts(s api.Super) []part {
	return []part{
		{(*writer).eight, s.Epoch},
		{(*writer).four, uint64(s.Start)},
		{(*writer).four, uint64(s.Pages)},
		{(*writer).four, uint64(s.Size)},
		{(*writer).four, mark},
		{(*writer).eight, s.Epoch},
	}
}

func (w *writer) eight(n uint64) {
	w.four(n >> 32)
	w.four(n)
}

func (w *writer) four(n uint64) {
	for _, shift := range [...]int{24, 16, 8, 0} {
		w.made[w.size] = byte(n >> shift)
		w.size++
	}
}
