package command_test

import (
	"bytes"
	"encoding/binary"
	"math"
	"math/rand"
	"slices"
	"strings"
	"testing"

	"apograph/api"
	"apograph/command"
)

func num(b []byte, n uint64) []byte {
	return binary.AppendUvarint(b, n)
}

func text(b []byte, s string) []byte {
	return append(num(b, uint64(len(s))), s...)
}

// laid is what a record of a command is, whether it may be or not, its numbers made by the library.
func laid(c api.Cmd) []byte {
	b := num(nil, uint64(int64(c.Kind)))
	for _, s := range []string{c.Name, c.Other, c.Key, c.Val} {
		b = text(b, s)
	}
	return binary.AppendVarint(b, int64(c.N))
}

// parsed takes a record only where it is laid so, and the command may be.
func parsed(b []byte) (api.Cmd, bool) {
	kind, size := binary.Uvarint(b)
	if size <= 0 {
		return api.Cmd{}, false
	}
	rest := b[size:]
	var texts [4]string
	for i := range texts {
		long, size := binary.Uvarint(rest)
		if size <= 0 || long > uint64(len(rest)-size) {
			return api.Cmd{}, false
		}
		texts[i] = string(rest[size:][:long])
		rest = rest[size:][long:]
	}
	n, size := binary.Varint(rest)
	c := api.Cmd{Kind: int(kind), Name: texts[0], Other: texts[1], Key: texts[2], Val: texts[3], N: int(n)}
	if size != len(rest) || size <= 0 || kind > 20 || meant(c) != api.OK || !bytes.Equal(laid(c), b) {
		return api.Cmd{}, false
	}
	return c, true
}

// reads asks for the command that b is, and for b of it.
func reads(t *testing.T, b []byte, want api.Cmd) {
	t.Helper()
	c, e := command.Of(b)
	if e != api.OK || c != want {
		t.Errorf("%q: %+v %d, not %+v", b, c, e, want)
	}
	if again := command.Put(c); !bytes.Equal(again, b) {
		t.Errorf("%q is written as %q", b, again)
	}
}

func refused(t *testing.T, b []byte) {
	t.Helper()
	if c, e := command.Of(b); e != api.ErrPack || c != (api.Cmd{}) {
		t.Errorf("%q: %+v %d", b, c, e)
	}
}

// asksOf holds Of against the plain reading.
func asksOf(t *testing.T, b []byte) {
	t.Helper()
	if c, is := parsed(b); is {
		reads(t, b, c)
	} else {
		refused(t, b)
	}
}

func puts(t *testing.T, c api.Cmd, want []byte) {
	t.Helper()
	if b := command.Put(c); !bytes.Equal(b, want) {
		t.Errorf("%+v: %q, not %q", c, b, want)
	}
}

func TestP19_4Put(t *testing.T) {
	long := strings.Repeat("k", 300)
	least := "\xff\xff\xff\xff\xff\xff\xff\xff\xff\x01"
	for c, b := range map[api.Cmd]string{
		{}:                           "\x00\x00\x00\x00\x00\x00",
		{Kind: api.CmdStatus}:        "\x14\x00\x00\x00\x00\x00",
		{Kind: api.CmdGet, Key: "a"}: "\x03\x00\x00\x01a\x00\x00",
		{Kind: 12, Name: "n", Other: "oo", Key: "\x00\xff", Val: "é", N: 3}: "\x0c\x01n\x02oo\x02\x00\xff\x02\xc3\xa9\x06",
		{Kind: 300, Key: long, N: -1}:                                       "\xac\x02\x00\x00\xac\x02" + long + "\x00\x01",
		{Kind: -1, N: 64}:                                                   least + "\x00\x00\x00\x00\x80\x01",
		{Kind: -2, N: -64}:                                                  "\xfe\xff\xff\xff\xff\xff\xff\xff\xff\x01\x00\x00\x00\x00\x7f",
		{Kind: math.MaxInt64, N: math.MaxInt64}:                             "\xff\xff\xff\xff\xff\xff\xff\xff\x7f\x00\x00\x00\x00\xfe\xff\xff\xff\xff\xff\xff\xff\xff\x01",
		{Kind: math.MinInt64, N: math.MinInt64}:                             "\x80\x80\x80\x80\x80\x80\x80\x80\x80\x01\x00\x00\x00\x00" + least,
	} {
		puts(t, c, []byte(b))
	}
}

// Each kind, each field in its place, whether it may be or not.
func TestP19_4PutOfEach(t *testing.T) {
	for kind := range words {
		c := right(kind)
		puts(t, c, laid(c))
		reads(t, laid(c), c)
		full := api.Cmd{Kind: kind, Name: "1", Other: "22", Key: "333", Val: "4444", N: 55}
		puts(t, full, laid(full))
	}
	for _, kind := range strange() {
		for _, n := range []int{math.MinInt, -1, 0, 1, math.MaxInt} {
			c := api.Cmd{Kind: kind, Name: "@", Other: times(300), Key: times(301), Val: times(131073), N: n}
			puts(t, c, laid(c))
			refused(t, laid(c))
			puts(t, api.Cmd{Kind: kind, N: n}, laid(api.Cmd{Kind: kind, N: n}))
			refused(t, laid(api.Cmd{Kind: kind, N: n}))
		}
	}
}

// There and back: just the commands that may be.
func TestP19_4All(t *testing.T) {
	few(func(c api.Cmd) {
		b := laid(c)
		if command.Check(c) == api.OK {
			puts(t, c, b)
			reads(t, b, c)
		} else {
			refused(t, b)
		}
	})
	for c := range bounds() {
		puts(t, c, laid(c))
		asksOf(t, laid(c))
	}
}

// samples are commands that may be: of each kind, short and as long as may be.
func samples() []api.Cmd {
	var l []api.Cmd
	for kind := range words {
		l = append(l, right(kind))
	}
	return append(l,
		api.Cmd{Kind: api.CmdPut, Key: times(40), Val: times(200)},
		api.Cmd{Kind: api.CmdScan, Key: times(40), Val: times(40), N: math.MaxInt},
		api.Cmd{Kind: api.CmdScan},
		api.Cmd{Kind: api.CmdCommit, Val: times(60)},
		api.Cmd{Kind: api.CmdBranch, Name: times(20), Other: "@18446744073709551615"},
		api.Cmd{Kind: api.CmdResolve, Key: "k", N: 3},
		api.Cmd{Kind: api.CmdDiff, Name: "a"},
		api.Cmd{Kind: api.CmdDiff, Other: "a"},
		api.Cmd{Kind: api.CmdLog, N: 300},
	)
}

func TestP19_4CutOff(t *testing.T) {
	for _, c := range samples() {
		b := laid(c)
		for size := range len(b) {
			refused(t, slices.Clip(b[:size]))
			refused(t, b[:size])
		}
		for last := range 256 {
			refused(t, append(slices.Clone(b), byte(last)))
		}
		refused(t, append(slices.Clone(b), b...))
		refused(t, append([]byte{0}, b...))
	}
	refused(t, nil)
	refused(t, []byte{})
}

func TestP19_4EachByteChanged(t *testing.T) {
	for _, c := range samples() {
		b := laid(c)
		for at := range b {
			for to := range 256 {
				x := slices.Clone(b)
				x[at] = byte(to)
				asksOf(t, x)
			}
			asksOf(t, slices.Delete(slices.Clone(b), at, at+1))
			for to := range 256 {
				asksOf(t, slices.Insert(slices.Clone(b), at, byte(to)))
			}
		}
	}
}

// longer is a number written in so many bytes more than need be.
func longer(n uint64, more int) []byte {
	b := num(nil, n)
	for range more {
		b[len(b)-1] |= 128
		b = append(b, 0)
	}
	return b
}

// Each number of a record, the others as they should be.
func TestP19_4LongerNumbers(t *testing.T) {
	for _, c := range samples() {
		n := c.N << 1
		numbers := []uint64{uint64(c.Kind), uint64(len(c.Name)), uint64(len(c.Other)), uint64(len(c.Key)), uint64(len(c.Val)), uint64(n)}
		texts := []string{"", c.Name, c.Other, c.Key, c.Val, ""}
		for place := -1; place < len(numbers); place++ {
			for more := range 11 {
				var b []byte
				for i, n := range numbers {
					if i == place {
						b = append(b, longer(n, more)...)
					} else {
						b = num(b, n)
					}
					b = append(b, texts[i]...)
				}
				if place < 0 || more == 0 {
					reads(t, b, c)
				} else {
					refused(t, b)
				}
			}
		}
	}
}

func TestP19_4Kinds(t *testing.T) {
	for _, kind := range []uint64{0, 21, 22, 127, 128, 255, 256 + 20, 1<<32 + 20, 1 << 63, 1<<63 + 20, math.MaxUint64 - 1, math.MaxUint64} {
		refused(t, append(num(nil, kind), 0, 0, 0, 0, 0))
		for other := range words {
			refused(t, append(num(nil, kind), laid(right(other))[1:]...))
		}
	}
	reads(t, []byte{20, 0, 0, 0, 0, 0}, api.Cmd{Kind: 20})
	refused(t, []byte{1, 0, 0, 0, 0, 0})
	reads(t, []byte{1, 0, 0, 1, 'k', 0, 0}, api.Cmd{Kind: 1, Key: "k"})
}

// No command that may be has texts as long as a record may have: of 300 bytes or of more, none comes.
func TestP19_4LongTexts(t *testing.T) {
	for kind := range words {
		for _, size := range []int{41, 61, 127, 128, 199, 200, 201, 299, 300, 301, 131072, 131073} {
			for _, field := range []string{"Name", "Other", "Key", "Val"} {
				c := right(kind)
				lay(&c, api.Cmd{Name: times(size), Other: times(size), Key: times(size), Val: times(size)}, field)
				puts(t, c, laid(c))
				asksOf(t, laid(c))
			}
		}
	}
	for _, size := range []uint64{2, 1 << 31, 1 << 32, 1<<63 - 1, 1 << 63, math.MaxUint64} {
		refused(t, append(num([]byte{3, 0, 0}, size), 'a', 0, 0))
	}
}

// Numbers at both ends, where they may be and where they may not.
func TestP19_4Numbers(t *testing.T) {
	for _, u := range []uint64{0, 1, 2, 3, 4, 5, 6, 7, 8, 127, 128, 1 << 32, 1<<63 - 1, 1 << 63, math.MaxUint64 - 1, math.MaxUint64} {
		for kind := range words {
			b := laid(without(right(kind), "N"))
			asksOf(t, num(b[:len(b)-1], u))
		}
	}
	reads(t, num([]byte{17, 0, 0, 0, 0}, math.MaxUint64-1), api.Cmd{Kind: api.CmdLog, N: math.MaxInt64})
	refused(t, num([]byte{17, 0, 0, 0, 0}, math.MaxUint64))
}

// P2: neither what is handed in nor what is handed out is shared, and what lies behind a length stays as it is.
func TestP19_4SharesNothing(t *testing.T) {
	for _, c := range samples() {
		room := append(laid(c), "behind"...)
		b := room[:len(room)-len("behind")]
		got, e := command.Of(b)
		if e != api.OK || got != c || !bytes.Equal(room, append(laid(c), "behind"...)) {
			t.Fatal(c, got, e, room)
		}
		clear(room)
		if got != c {
			t.Error("the command changed with the bytes", c, got)
		}
		one, two := command.Put(c), command.Put(c)
		clear(one[:cap(one)])
		if !bytes.Equal(two, laid(c)) || !bytes.Equal(command.Put(c), laid(c)) {
			t.Error("answers share memory", two)
		}
	}
}

// byChance is a command of which each field is mostly one that may be.
func byChance(r *rand.Rand) api.Cmd {
	texts := []string{"", "", "a", "main", "@1", "@18446744073709551615", "@0", "A", "a b", times(20), times(40), times(41), times(200), times(201), times(300), times(301), "\x00", "\xff\xfe"}
	some := func() string { return texts[r.Intn(len(texts))] }
	full := api.Cmd{Name: some(), Other: some(), Key: some(), Val: some(), N: r.Intn(7) - 2}
	c := right(1 + r.Intn(20))
	for range r.Intn(4) {
		lay(&c, full, []string{"Name", "Other", "Key", "Val", "N"}[r.Intn(5)])
	}
	if r.Intn(10) == 0 {
		c.Kind = r.Intn(30) - 5
	}
	return c
}

// Commands and bytes by chance.
func TestP19_4ByChance(t *testing.T) {
	r := rand.New(rand.NewSource(19))
	for range 30000 {
		c := byChance(r)
		checks(t, c, meant(c))
		b := laid(c)
		puts(t, c, b)
		asksOf(t, b)
		for range 1 + r.Intn(3) {
			b[r.Intn(len(b))] = byte(r.Intn(256))
		}
		asksOf(t, b)
		asksOf(t, b[:r.Intn(len(b)+1)])
	}
}

// P1 and P19.4: any bytes.
func FuzzOf(f *testing.F) {
	for _, c := range samples() {
		f.Add(laid(c))
	}
	f.Fuzz(func(t *testing.T, b []byte) {
		asksOf(t, b)
		asksOf(t, b)
	})
}

// P1 and P19.2: any commands.
func FuzzCheck(f *testing.F) {
	for _, c := range samples() {
		f.Add(c.Kind, c.Name, c.Other, c.Key, c.Val, c.N)
	}
	f.Fuzz(func(t *testing.T, kind int, name, other, key, val string, n int) {
		c := api.Cmd{Kind: kind, Name: name, Other: other, Key: key, Val: val, N: n}
		checks(t, c, meant(c))
		puts(t, c, laid(c))
		asksOf(t, laid(c))
	})
}
