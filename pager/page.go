package pager

import (
	"bytes"
	"slices"

	"apograph/api"
	"apograph/dev"
	"apograph/fnv"
)

const (
	sumSize  = 4
	textSize = api.Page - sumSize
	sectors  = api.Page / api.Sector // of a page
	maxPages = 16384                 // of the greatest device
)

// Need: P7.1.
func Need(size int) int {
	if size < 0 || size > api.MaxChunk {
		return 0
	}
	return max(1, (size+textSize-1)/textSize)
}

// Write: P7.1. What lies ahead of the first error is written all the same.
func Write(d *dev.Dev, start int, b []byte) api.Errno {
	n := Need(len(b))
	if n == 0 {
		return api.ErrLong
	}
	write, at := d.Write, first(start)
	for i := range n {
		if e := lay(write, at+i*sectors, page(cut(b, i))); e != api.OK {
			return e
		}
	}
	return api.OK
}

// Read: P7.1. A sector's error comes ahead of any page's ErrSum, also if that page lies ahead of the sector (P4).
func Read(d *dev.Dev, start, size int) ([]byte, api.Errno) {
	n := Need(size)
	if n == 0 {
		return nil, api.ErrRange
	}
	raw, e := gather(d.Read, first(start), n*sectors)
	if e != api.OK {
		return nil, e
	}
	var b []byte
	for whole := range slices.Chunk(raw, api.Page) {
		text := whole[sumSize:api.Page:api.Page]
		if !bytes.Equal(whole[:sumSize:sumSize], sum(text)) {
			return nil, api.ErrSum
		}
		b = append(b, text...)
	}
	return b[:size:size], api.OK
}

// first is the first sector of a page, or one that no device has: there its number could wrap round into one that there is.
func first(page int) int {
	if page < 0 || page >= maxPages {
		return -1
	}
	return page * sectors
}

// cut is what the i-th page takes of a text; its capacity ends with it, so that nothing is laid into the text behind it.
func cut(b []byte, i int) []byte {
	low := i * textSize
	high := min(low+textSize, len(b))
	return b[low:high:high]
}

// page is a page with this text, and bytes 0 behind it.
func page(text []byte) []byte {
	whole := make([]byte, api.Page)
	copy(whole[sumSize:], text)
	copy(whole, sum(whole[sumSize:]))
	return whole
}

// sum is the four bytes that a page begins with.
func sum(text []byte) []byte {
	n := fnv.Fold(fnv.Sum(string(text)))
	return []byte{byte(n >> 24), byte(n >> 16), byte(n >> 8), byte(n)}
}

// lay writes a page into the sectors from one on.
func lay(write func(int, []byte) api.Errno, at int, whole []byte) api.Errno {
	for i := range sectors {
		low := i * api.Sector
		high := low + api.Sector
		if e := write(at+i, whole[low:high:high]); e != api.OK {
			return e
		}
	}
	return api.OK
}

// gather is the bytes of n sectors from one on.
func gather(read func(int) ([]byte, api.Errno), at, n int) ([]byte, api.Errno) {
	var raw []byte
	for i := range n {
		b, e := read(at + i)
		if e != api.OK {
			return nil, e
		}
		raw = append(raw, b...)
	}
	return raw, api.OK
}
