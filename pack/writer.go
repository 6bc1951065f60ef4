package pack

import (
	"bytes"

	"apograph/api"
	"apograph/leb"
)

// Writer: P2.1.
type Writer struct {
	made []byte
}

// Num: P2.1.
func (w *Writer) Num(l ...uint64) {
	if w == nil {
		return
	}
	// leb.Put copies what it lays behind: onto nothing, a long record isn't copied at each number.
	w.made = append(w.made, leb.Put(nil, l...)...)
}

// Text: P2.1.
func (w *Writer) Text(s string) {
	if w == nil {
		return
	}
	w.Num(uint64(len(s)))
	w.made = append(w.made, s...)
}

// Flag: P2.1.
func (w *Writer) Flag(is bool) {
	if is {
		w.Num(1)
	} else {
		w.Num(0)
	}
}

// Bytes: P2.1.
func (w *Writer) Bytes() []byte {
	if w == nil {
		return nil
	}
	return bytes.Clone(w.made)
}

func (w *Writer) field(f api.Field) {
	switch f.Kind {
	case api.Num:
		w.Num(f.N)
	case api.Text:
		w.Text(f.S)
	case api.Flag:
		w.Flag(f.Is)
	}
}
