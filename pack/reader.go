package pack

import (
	"bytes"
	"math"

	"apograph/api"
	"apograph/leb"
)

// Reader: P2.2. One that nobody made has no bytes to read.
type Reader struct {
	rest   []byte
	failed bool
}

// Read: P2.2. The bytes are copied, since their owner may change them while they are read.
func Read(b []byte) *Reader {
	return &Reader{rest: bytes.Clone(b)}
}

// Num: P2.2.
func (r *Reader) Num(most uint64) uint64 {
	if r == nil {
		return 0
	}
	n, size, e := leb.Of(r.rest)
	if e != api.OK || n > most {
		r.fail()
		return 0
	}
	r.rest = r.rest[size:]
	return n
}

// Text: P2.2.
func (r *Reader) Text(most int) string {
	if r == nil {
		return ""
	}
	if most < 0 {
		r.fail()
		return ""
	}
	size := int(r.Num(uint64(most)))
	if size > len(r.rest) {
		r.fail()
		return ""
	}
	s := string(r.rest[:size])
	r.rest = r.rest[size:]
	return s
}

// Flag: P2.2.
func (r *Reader) Flag() bool {
	return r.Num(1) == 1
}

// Left: P2.2.
func (r *Reader) Left() int {
	if r == nil {
		return 0
	}
	return len(r.rest)
}

// Done: P2.2.
func (r *Reader) Done() bool {
	return r != nil && !r.failed && len(r.rest) == 0
}

// fail drops the bytes that are left, so that nothing can be read of them any more.
func (r *Reader) fail() {
	r.rest, r.failed = nil, true
}

// reading tells by what a field of that kind is read; one of no kind can't be, which fails the reader.
func (r *Reader) reading(kind int) func() api.Field {
	switch kind {
	case api.Num:
		return r.numField
	case api.Text:
		return r.textField
	case api.Flag:
		return r.flagField
	}
	return r.noField
}

func (r *Reader) numField() api.Field {
	return api.Field{Kind: api.Num, N: r.Num(math.MaxUint64)}
}

func (r *Reader) textField() api.Field {
	return api.Field{Kind: api.Text, S: r.Text(api.MaxChunk)}
}

func (r *Reader) flagField() api.Field {
	return api.Field{Kind: api.Flag, Is: r.Flag()}
}

func (r *Reader) noField() api.Field {
	r.fail()
	return api.Field{}
}
