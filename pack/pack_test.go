package pack_test

import (
	"bytes"
	"math"
	"slices"
	"strconv"
	"strings"
	"testing"

	"apograph/api"
	"apograph/pack"
)

func num(n uint64) api.Field  { return api.Field{Kind: api.Num, N: n} }
func text(s string) api.Field { return api.Field{Kind: api.Text, S: s} }
func flag(is bool) api.Field  { return api.Field{Kind: api.Flag, Is: is} }

func kindsOf(l []api.Field) []int {
	var kinds []int
	for _, f := range l {
		kinds = append(kinds, f.Kind)
	}
	return kinds
}

// record is fields with the bytes that they are written as.
type record struct {
	fields []api.Field
	bytes  string
}

func records() []record {
	long := strings.Repeat("x", 300)
	return []record{
		{nil, ""},
		{[]api.Field{num(0)}, "\x00"},
		{[]api.Field{num(127)}, "\x7f"},
		{[]api.Field{num(128)}, "\x80\x01"},
		{[]api.Field{num(math.MaxUint64)}, "\xff\xff\xff\xff\xff\xff\xff\xff\xff\x01"},
		{[]api.Field{text("")}, "\x00"},
		{[]api.Field{text("a")}, "\x01a"},
		{[]api.Field{text("\x00\xff\x80")}, "\x03\x00\xff\x80"},
		{[]api.Field{text("é")}, "\x02\xc3\xa9"},
		{[]api.Field{text(long[:127])}, "\x7f" + long[:127]},
		{[]api.Field{text(long[:128])}, "\x80\x01" + long[:128]},
		{[]api.Field{text(long)}, "\xac\x02" + long},
		{[]api.Field{flag(false)}, "\x00"},
		{[]api.Field{flag(true)}, "\x01"},
		{[]api.Field{text("ab"), flag(true)}, "\x02ab\x01"},
		{[]api.Field{num(5), num(300), text("ab"), flag(true)}, "\x05\xac\x02\x02ab\x01"},
		{[]api.Field{flag(false), text(""), num(1), flag(true), text("\x01"), num(0)}, "\x00\x00\x01\x01\x01\x01\x00"},
	}
}

// texts calls f with all texts of at most so many bytes, made of bytes that are small sizes, flags, or numbers that go on.
func texts(most int, f func([]byte)) {
	var grow func([]byte)
	grow = func(b []byte) {
		f(b)
		if len(b) == most {
			return
		}
		for _, c := range []byte{0, 1, 2, 3, 127, 128, 129, 255} {
			grow(append(slices.Clone(b), c))
		}
	}
	grow(nil)
}

// kindLists calls f with all lists of at most so many kinds.
func kindLists(most int, f func([]int)) {
	var grow func([]int)
	grow = func(l []int) {
		f(l)
		if len(l) == most {
			return
		}
		for _, kind := range []int{api.Num, api.Text, api.Flag} {
			grow(append(slices.Clone(l), kind))
		}
	}
	grow(nil)
}

func strange() []int {
	return []int{0, 4, 9, -1, -2, -3, 256 + api.Num, 1<<32 + api.Text, math.MaxInt, math.MinInt}
}

// P2.1, the chapter's example.
func TestPutExample(t *testing.T) {
	if b := pack.Put(text("ab"), flag(true)); !bytes.Equal(b, []byte{2, 97, 98, 1}) {
		t.Error(b)
	}
}

// P2.1
func TestPut(t *testing.T) {
	for _, r := range records() {
		if b := pack.Put(r.fields...); string(b) != r.bytes {
			t.Error(r.fields, b)
		}
	}
	long := strings.Repeat("y", 131073)
	if b := pack.Put(text(long[:131072])); string(b) != "\x80\x80\x08"+long[:131072] {
		t.Error("131,072 bytes", len(b))
	}
	if b := pack.Put(text(long)); string(b) != "\x81\x80\x08"+long {
		t.Error("one more", len(b))
	}
}

// P2.1: what belongs to another kind isn't written.
func TestPutByKind(t *testing.T) {
	full := api.Field{N: 7, S: "abc", Is: true}
	for kind, want := range map[int]string{api.Num: "\x07", api.Text: "\x03abc", api.Flag: "\x01"} {
		full.Kind = kind
		if b := pack.Put(full); string(b) != want {
			t.Error(kind, b)
		}
	}
}

// P2.1
func TestPutOtherKinds(t *testing.T) {
	for _, kind := range strange() {
		none := api.Field{Kind: kind, N: 7, S: "abc", Is: true}
		if b := pack.Put(none); len(b) != 0 {
			t.Error(kind, b)
		}
		if b := pack.Put(num(5), none, flag(true), none); string(b) != "\x05\x01" {
			t.Error("among others", kind, b)
		}
	}
	if b := pack.Put([]api.Field{}...); len(b) != 0 {
		t.Error("an empty list", b)
	}
}

// P2.1
func TestWriter(t *testing.T) {
	for _, r := range records() {
		var w pack.Writer
		for _, f := range r.fields {
			switch f.Kind {
			case api.Num:
				w.Num(f.N)
			case api.Text:
				w.Text(f.S)
			case api.Flag:
				w.Flag(f.Is)
			}
		}
		if string(w.Bytes()) != r.bytes {
			t.Error(r.fields, w.Bytes())
		}
	}
	w := &pack.Writer{}
	w.Num(300, 0, 7)
	w.Num()
	w.Num([]uint64{}...)
	w.Num(nil...)
	if string(w.Bytes()) != "\xac\x02\x00\x07" {
		t.Error("several numbers, and none", w.Bytes())
	}
}

// P1: a writer that nobody made.
func TestNilWriter(t *testing.T) {
	var none *pack.Writer
	none.Num(1, 2)
	none.Num()
	none.Text("ab")
	none.Flag(true)
	none.Flag(false)
	if len(none.Bytes()) != 0 {
		t.Error(none.Bytes())
	}
	if b := new(pack.Writer).Bytes(); len(b) != 0 {
		t.Error(b)
	}
}

// P2
func TestWriterSharesNothing(t *testing.T) {
	l := []uint64{5, 6, 7, 8}
	w := &pack.Writer{}
	w.Num(l[:2]...)
	first, second := w.Bytes(), w.Bytes()
	first[0] = 99
	first = append(first, 98, 97)
	w.Text("ab")
	first[1] = 99
	if string(second) != "\x05\x06" || string(w.Bytes()) != "\x05\x06\x02ab" {
		t.Error(second, w.Bytes())
	}
	if !slices.Equal(l, []uint64{5, 6, 7, 8}) {
		t.Error("an argument was changed", l)
	}
	fields := []api.Field{num(1), text("ab"), num(3)}
	one, two := pack.Put(fields[:2]...), pack.Put(fields[:2]...)
	clear(one)
	if string(two) != "\x01\x02ab" || !slices.Equal(fields, []api.Field{num(1), text("ab"), num(3)}) {
		t.Error(two, fields)
	}
}

// hasFailed: what a reader that has failed tells, and goes on to tell.
func hasFailed(t *testing.T, r *pack.Reader, why ...any) {
	t.Helper()
	for range 2 {
		if r.Left() != 0 || r.Done() {
			t.Error(append(why, "left", r.Left(), r.Done())...)
		}
		if n := r.Num(math.MaxUint64); n != 0 {
			t.Error(append(why, "number", n)...)
		}
		if s := r.Text(math.MaxInt); s != "" {
			t.Error(append(why, "text", s)...)
		}
		if r.Text(-1) != "" || r.Flag() {
			t.Error(append(why, "flag")...)
		}
	}
}

// P2.2
func TestReader(t *testing.T) {
	r := pack.Read([]byte("\x05\xac\x02\x02ab\x01\x00\x00"))
	for _, step := range []struct {
		read func() bool
		left int
	}{
		{func() bool { return r.Num(9) == 5 }, 8},
		{func() bool { return r.Num(999) == 300 }, 6},
		{func() bool { return r.Text(5) == "ab" }, 3},
		{func() bool { return r.Flag() }, 2},
		{func() bool { return !r.Flag() }, 1},
		{func() bool { return r.Text(0) == "" }, 0},
	} {
		if r.Done() {
			t.Error("done ahead of", step.left)
		}
		if !step.read() || r.Left() != step.left {
			t.Error("left", r.Left(), "not", step.left)
		}
	}
	if !r.Done() {
		t.Error("not done")
	}
	if r.Num(0) != 0 {
		t.Error("behind the end")
	}
	hasFailed(t, r, "behind the end")
}

// P2.2
func TestNumberAboveMost(t *testing.T) {
	for _, n := range []uint64{0, 1, 5, 127, 128, 299, 300, 1 << 32, 1 << 63, math.MaxUint64} {
		b := pack.Put(num(n), num(1))
		r := pack.Read(b)
		if r.Num(n) != n || r.Left() != 1 || r.Done() {
			t.Error("just most", n)
		}
		if n < math.MaxUint64 && pack.Read(b).Num(n+1) != n {
			t.Error("below most", n)
		}
		if n == 0 {
			continue
		}
		for _, most := range []uint64{n - 1, 0} {
			r = pack.Read(b)
			if r.Num(most) != 0 {
				t.Error("above most", n, most)
			}
			hasFailed(t, r, "above most", n, most)
		}
	}
}

// P2.2
func TestTextAboveMost(t *testing.T) {
	for _, size := range []int{0, 1, 2, 127, 128, 200, 131072, 131073} {
		s := strings.Repeat("z", size)
		b := pack.Put(text(s), flag(true))
		for _, most := range []int{size, size + 1, math.MaxInt} {
			r := pack.Read(b)
			if r.Text(most) != s || r.Left() != 1 || !r.Flag() || !r.Done() {
				t.Error("most", most, "size", size)
			}
		}
		for _, most := range []int{size - 1, -1, -2, math.MinInt} {
			r := pack.Read(b)
			if r.Text(most) != "" {
				t.Error("above most", most, "size", size)
			}
			hasFailed(t, r, "above most", most, size)
		}
	}
}

// P2.2: a most below 0 fails a reader even where no text is left.
func TestTextBelowZero(t *testing.T) {
	r := pack.Read(nil)
	if r.Text(-1) != "" {
		t.Error("a text")
	}
	hasFailed(t, r)
}

// P2.2
func TestFlag(t *testing.T) {
	if r := pack.Read([]byte{0}); r.Flag() || !r.Done() {
		t.Error("0")
	}
	if r := pack.Read([]byte{1}); !r.Flag() || !r.Done() {
		t.Error("1")
	}
	for _, b := range []string{"\x02", "\x02\x01", "\x7f", "\x81\x01", "\x81\x00", "\x80\x00", "\xff\xff\xff\xff\xff\xff\xff\xff\xff\x01", "\x81", ""} {
		r := pack.Read([]byte(b))
		if r.Flag() {
			t.Error([]byte(b))
		}
		hasFailed(t, r, []byte(b))
		if l, e := pack.Of([]byte(b), api.Flag); len(l) != 0 || e != api.ErrPack {
			t.Error("Of", []byte(b), l, e)
		}
	}
}

// P2.2
func TestNoNumber(t *testing.T) {
	for _, b := range []string{"", "\x80", "\xff\xff", "\x80\x00", "\x85\x00", "\x80\x80\x00", "\xff\xff\xff\xff\xff\xff\xff\xff\xff\x02", "\x80\x80\x80\x80\x80\x80\x80\x80\x80\x80\x01"} {
		numbers, sized, flags := pack.Read([]byte(b)), pack.Read([]byte(b)), pack.Read([]byte(b))
		if numbers.Num(math.MaxUint64) != 0 || sized.Text(math.MaxInt) != "" || flags.Flag() {
			t.Error([]byte(b))
		}
		for _, r := range []*pack.Reader{numbers, sized, flags} {
			hasFailed(t, r, []byte(b))
		}
		for _, kind := range []int{api.Num, api.Text, api.Flag} {
			if l, e := pack.Of([]byte(b), kind); len(l) != 0 || e != api.ErrPack {
				t.Error("Of", []byte(b), kind, l, e)
			}
		}
	}
}

// P2.2: a text whose bytes aren't all there, with sizes that don't fit into an int among them.
func TestEndTooEarly(t *testing.T) {
	for _, b := range []string{"\x01", "\x02a", "\x03ab", "\x7f", "\x80\x01", "\x80\x80\x08", "\xff\xff\xff\xff\x07ab", "\xff\xff\xff\xff\xff\xff\xff\xff\x7fab", "\x80\x80\x80\x80\x80\x80\x80\x80\x80\x01ab", "\xff\xff\xff\xff\xff\xff\xff\xff\xff\x01ab"} {
		r := pack.Read([]byte(b))
		if s := r.Text(math.MaxInt); s != "" {
			t.Error([]byte(b), s)
		}
		hasFailed(t, r, []byte(b))
		if l, e := pack.Of([]byte(b), api.Text); len(l) != 0 || e != api.ErrPack {
			t.Error("Of", []byte(b), l, e)
		}
	}
	room := []byte("\x02ab")
	if r := pack.Read(room[:2]); r.Text(9) != "" || r.Done() {
		t.Error("what lies behind the length was read")
	}
	if l, e := pack.Of(room[:2], api.Text); len(l) != 0 || e != api.ErrPack {
		t.Error("Of: what lies behind the length was read", l)
	}
}

// P2.2: one that has failed tells nothing of the good bytes that were left.
func TestFailedIsReadOn(t *testing.T) {
	good := []byte("\x05\x02ab\x01\x00")
	for name, fail := range map[string]func(*pack.Reader){
		"number": func(r *pack.Reader) { r.Num(4) },
		"text":   func(r *pack.Reader) { r.Text(4) },
		"flag":   func(r *pack.Reader) { r.Flag() },
		"below":  func(r *pack.Reader) { r.Text(-1) },
	} {
		r := pack.Read(good)
		fail(r)
		hasFailed(t, r, name)
	}
}

// P1 and P2.2: nil has failed; a zero value has no bytes, and is read to its end.
func TestReaderThatNobodyMade(t *testing.T) {
	var none *pack.Reader
	hasFailed(t, none, "nil")
	for name, r := range map[string]*pack.Reader{"zero": {}, "nil bytes": pack.Read(nil), "empty bytes": pack.Read([]byte{})} {
		if r.Left() != 0 || !r.Done() {
			t.Error(name, r.Left(), r.Done())
		}
		if r.Num(math.MaxUint64) != 0 {
			t.Error(name, "a number")
		}
		hasFailed(t, r, name)
	}
}

// P2.2
func TestOf(t *testing.T) {
	for _, r := range records() {
		l, e := pack.Of([]byte(r.bytes), kindsOf(r.fields)...)
		if e != api.OK || !slices.Equal(l, r.fields) {
			t.Error([]byte(r.bytes), l, e)
		}
	}
	for _, b := range [][]byte{nil, {}} {
		for _, kinds := range [][]int{nil, {}} {
			if l, e := pack.Of(b, kinds...); len(l) != 0 || e != api.OK {
				t.Error("nothing at all", l, e)
			}
		}
	}
}

func refused(t *testing.T, b string, kinds ...int) {
	t.Helper()
	if l, e := pack.Of([]byte(b), kinds...); len(l) != 0 || e != api.ErrPack {
		t.Error([]byte(b), kinds, l, e)
	}
}

// P2.2
func TestOfOthers(t *testing.T) {
	for _, r := range records() {
		kinds := kindsOf(r.fields)
		for _, left := range []string{"\x00", "\x01", "\x80", "ab"} {
			refused(t, r.bytes+left, kinds...)
		}
		for cut := range len(r.bytes) {
			refused(t, r.bytes[:cut], kinds...)
		}
		for _, kind := range []int{api.Num, api.Text, api.Flag} {
			refused(t, r.bytes, append(kinds, kind)...)
		}
	}
	refused(t, "\x00")
	refused(t, "\x05\x06", api.Num)
	refused(t, "\x05\x06", api.Num, api.Flag)
}

// P2.2
func TestOfOtherKinds(t *testing.T) {
	for _, kind := range strange() {
		refused(t, "", kind)
		refused(t, "\x01", kind)
		refused(t, "\x01", api.Num, kind)
		refused(t, "\x01", kind, api.Num)
		refused(t, "\x01\x01", kind, api.Num)
		refused(t, "\x01\x01\x01", api.Num, kind, api.Flag)
		refused(t, "\x80", api.Num, kind)
	}
}

// P2.2
func TestOfLongTexts(t *testing.T) {
	long := strings.Repeat("w", 131073)
	l, e := pack.Of(pack.Put(text(long[:131072]), num(3)), api.Text, api.Num)
	if e != api.OK || len(l) != 2 || l[0] != text(long[:131072]) || l[1] != num(3) {
		t.Error("131,072 bytes", e, len(l))
	}
	if l, e := pack.Of(pack.Put(text(long), num(3)), api.Text, api.Num); len(l) != 0 || e != api.ErrPack {
		t.Error("one more", e, len(l))
	}
}

// P2
func TestReadersShareNothing(t *testing.T) {
	room := []byte("\x02ab\x05\x02cd")
	r := pack.Read(room[:4])
	l, _ := pack.Of(room[:4], api.Text, api.Num)
	m, _ := pack.Of(room[:4], api.Text, api.Num)
	l[1].N = 9
	s := r.Text(2)
	for i := range room {
		room[i] = 'z'
	}
	if s != "ab" || r.Num(9) != 5 || !r.Done() {
		t.Error("the reader saw its bytes change", s)
	}
	if !slices.Equal(m, []api.Field{text("ab"), num(5)}) || l[0] != text("ab") {
		t.Error("answers changed", l, m)
	}
	b, kinds := []byte("\x02ab\x05\x01"), []int{api.Text, api.Num, api.Flag}
	pack.Of(b[:4], kinds[:2]...)
	pack.Read(b).Text(9)
	if string(b) != "\x02ab\x05\x01" || !slices.Equal(kinds, []int{api.Text, api.Num, api.Flag}) {
		t.Error("an argument was changed", b, kinds)
	}
}

// meant tells, as the chapter says it, the fields of these kinds that b is, if it is any.
func meant(b []byte, kinds []int) ([]api.Field, bool) {
	var l []api.Field
	for _, kind := range kinds {
		n, size := number(b)
		if size == 0 {
			return nil, false
		}
		b = b[size:]
		switch {
		case kind == api.Num:
			l = append(l, num(n))
		case kind == api.Flag && n <= 1:
			l = append(l, flag(n == 1))
		case kind == api.Text && n <= uint64(len(b)):
			l = append(l, text(string(b[:n])))
			b = b[n:]
		default:
			return nil, false
		}
	}
	return l, len(b) == 0
}

// number is that of a few bytes with which b begins, and its size; 0, if there is none.
func number(b []byte) (n uint64, size int) {
	for i, c := range b {
		n += uint64(c%128) << (7 * i)
		if c < 128 {
			if c == 0 && i > 0 {
				return 0, 0
			}
			return n, i + 1
		}
	}
	return 0, 0
}

func told(l []api.Field) string {
	var s strings.Builder
	for _, f := range l {
		s.WriteString(strconv.Itoa(f.Kind) + " " + strconv.FormatUint(f.N, 10) + " " + strconv.Quote(f.S) + " " + strconv.FormatBool(f.Is) + "\n")
	}
	return s.String()
}

// P2.2 and P2.3, at all short texts and lists of kinds.
func TestInOneWayOnly(t *testing.T) {
	seen := map[string]string{}
	texts(4, func(b []byte) {
		kindLists(3, func(kinds []int) {
			want, ok := meant(b, kinds)
			l, e := pack.Of(b, kinds...)
			if ok != (e == api.OK) || ok && !slices.Equal(l, want) || !ok && (len(l) != 0 || e != api.ErrPack) {
				t.Fatal(b, kinds, l, e)
			}
			if !ok {
				return
			}
			if !bytes.Equal(pack.Put(l...), b) {
				t.Fatal("written otherwise", b, l)
			}
			if other, is := seen[told(l)]; is && other != string(b) {
				t.Fatal("the same fields", []byte(other), b)
			}
			seen[told(l)] = string(b)
		})
	})
	if len(seen) == 0 {
		t.Error("nothing was read")
	}
}

// P2.3, by reader and writer.
func TestReadAndWrittenAgain(t *testing.T) {
	texts(5, func(b []byte) {
		r, w := pack.Read(b), &pack.Writer{}
		w.Flag(r.Flag())
		w.Text(r.Text(2))
		w.Num(r.Num(200))
		if r.Done() && !bytes.Equal(w.Bytes(), b) {
			t.Fatal(b, w.Bytes())
		}
	})
}

// P1 and P2.3, at any bytes and kinds.
func FuzzOf(f *testing.F) {
	f.Add([]byte("\x02ab\x01"), []byte{api.Text, api.Flag})
	f.Add([]byte("\x80\x00"), []byte{api.Num, 9})
	f.Add([]byte("\xff\xff\xff\xff\xff\xff\xff\xff\xff\x01ab"), []byte{api.Text})
	f.Fuzz(func(t *testing.T, b, list []byte) {
		var kinds []int
		for _, kind := range list {
			kinds = append(kinds, int(kind))
		}
		l, e := pack.Of(b, kinds...)
		if e != api.OK {
			if len(l) != 0 || e != api.ErrPack {
				t.Error(b, kinds, l, e)
			}
			return
		}
		if !slices.Equal(kindsOf(l), kinds) || !bytes.Equal(pack.Put(l...), b) {
			t.Error(b, kinds, l)
		}
	})
}
