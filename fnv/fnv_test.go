package fnv_test

import (
	library "hash/fnv"
	"math"
	"math/big"
	"strings"
	"testing"

	"apograph/fnv"
)

// meantMore tells, with numbers of any size, what the chapter says of More.
func meantMore(h uint64, s string) uint64 {
	whole := new(big.Int).Lsh(big.NewInt(1), 64)
	sum := new(big.Int).SetUint64(h)
	for _, c := range []byte(s) {
		sum.Xor(sum, big.NewInt(int64(c)))
		sum.Mul(sum, big.NewInt(1099511628211))
		sum.Mod(sum, whole)
	}
	return sum.Uint64()
}

// meantEnds tells, with numbers of any size, what the chapter says of Ends.
func meantEnds(level int, key string) bool {
	// big.Int's Mod is never below 0, whatever the sign of what it is asked for.
	rest := new(big.Int).Mod(big.NewInt(int64(level)), big.NewInt(256))
	sum := meantMore(14695981039346656037, string([]byte{byte(rest.Int64())}))
	of := new(big.Int).SetUint64(meantMore(sum, key))
	of.Div(of, big.NewInt(1024))
	return of.Mod(of, big.NewInt(4)).Sign() == 0
}

// starts are sums to go on from: the edges, and numbers around powers of two.
func starts() []uint64 {
	l := []uint64{0, 1, 2, 255, 256, math.MaxInt64, math.MaxUint64 - 1, math.MaxUint64, 14695981039346656037, 1099511628211}
	for i := range 64 {
		p := uint64(1) << i
		l = append(l, p-1, p, p+1, -p)
	}
	return l
}

// oneByte is the text of one byte, of any value.
func oneByte(value int) string {
	return string([]byte{byte(value)})
}

// texts are no bytes, one byte of each value, and longer ones, of which some aren't runes.
func texts() []string {
	l := []string{"", "foobar", "é", "\xc3", "\xa9\xc3", "日本語", "\ufffd", "\x00\x00", "\xff\xff\xff", "\x00a\x00", strings.Repeat("key", 200)}
	for i := range 256 {
		l = append(l, oneByte(i))
	}
	return l
}

func levels() []int {
	return []int{0, 1, 2, 19, 20, 21, 127, 128, 129, 254, 255, 256, 257, 511, 512, 65535, 65536,
		-1, -2, -127, -128, -129, -255, -256, -257, -512, math.MaxInt32, math.MinInt32,
		math.MaxInt, math.MaxInt - 1, math.MinInt, math.MinInt + 1}
}

func TestExamples(t *testing.T) {
	if h := fnv.Sum(""); h != 14695981039346656037 {
		t.Errorf("Sum of no bytes: %d", h)
	}
	if h := fnv.Sum("a"); h != 12638187200555641996 {
		t.Errorf("Sum of a: %d", h)
	}
}

func TestP3_1SumsKnown(t *testing.T) {
	for _, c := range []struct {
		text string
		sum  uint64
	}{
		{"", 0xcbf29ce484222325},
		{"\x00", 0xaf63bd4c8601b7df},
		{"a", 0xaf63dc4c8601ec8c},
		{"\x80", 0xaf643d4c8602915f},
		{"\xff", 0xaf64724c8602eb6e},
		{"é", 0x0ac21707b7181e01},
		{"hello", 0xa430d84680aabd0b},
		{"foobar", 0x85944171f73967e8},
		{"chongo was here!\n", 0x46810940eff5f915},
		{"\xd5\x6b\xb9\x53\x42\x87\x08\x36", 0},
	} {
		if h := fnv.Sum(c.text); h != c.sum {
			t.Errorf("Sum(%q) = %#x, not %#x", c.text, h, c.sum)
		}
	}
}

func TestP3_1SumAsTheLibrarys(t *testing.T) {
	for _, s := range texts() {
		h := library.New64a()
		h.Write([]byte(s))
		if got := fnv.Sum(s); got != h.Sum64() {
			t.Errorf("Sum(%q) = %d, not %d", s, got, h.Sum64())
		}
	}
}

func TestP3_1More(t *testing.T) {
	for _, h := range starts() {
		for _, s := range texts() {
			if got, want := fnv.More(h, s), meantMore(h, s); got != want {
				t.Fatalf("More(%d, %q) = %d, not %d", h, s, got, want)
			}
		}
	}
}

func TestP3_1MoreOfNoBytes(t *testing.T) {
	for _, h := range starts() {
		if got := fnv.More(h, ""); got != h {
			t.Errorf("More(%d, no bytes) = %d", h, got)
		}
	}
}

func TestP3_1SumIsMoreOfTheStart(t *testing.T) {
	for _, s := range texts() {
		if fnv.Sum(s) != fnv.More(14695981039346656037, s) {
			t.Errorf("Sum(%q) isn't More of the start", s)
		}
	}
}

// TestP3_1MoreFromAndToTheEdges: the xor comes first, the product wraps round.
func TestP3_1MoreFromAndToTheEdges(t *testing.T) {
	const inverse = 14886173955864302971 // times the prime it is 1, modulo 2^64
	for i := range 256 {
		s, b := oneByte(i), uint64(i)
		if h := fnv.More(0, s); h != b*1099511628211 {
			t.Errorf("More(0, %q) = %d", s, h)
		}
		if h := fnv.More(b, s); h != 0 {
			t.Errorf("More(%d, %q) = %d, not 0", b, s, h)
		}
		if h, want := fnv.More(math.MaxUint64, s), -(b+1)*1099511628211; h != want {
			t.Errorf("More(2^64 - 1, %q) = %d, not %d", s, h, want)
		}
		// What times the prime is 2^64 - 1, is the inverse times -1.
		var before uint64 = 1<<64 - inverse
		if h := fnv.More(before^b, s); h != math.MaxUint64 {
			t.Errorf("More(%d, %q) = %d, not 2^64 - 1", before^b, s, h)
		}
	}
}

// TestP3_1BytesNotRunes: a text that is no text of runes is summed as it stands.
func TestP3_1BytesNotRunes(t *testing.T) {
	l := []string{"\xff", "\xfe", "\xc3", "\ufffd", "é", "\xe9", "\xc3\xa9\xff"}
	for i, s := range l {
		for _, other := range l[:i] {
			if s != other && fnv.Sum(s) == fnv.Sum(other) {
				t.Errorf("one sum of %q and %q", s, other)
			}
		}
	}
}

func TestP3_1Fold(t *testing.T) {
	for _, c := range []struct {
		h      uint64
		folded uint32
	}{
		{0, 0},
		{math.MaxUint64, 0},
		{math.MaxUint32, math.MaxUint32},
		{math.MaxUint32 << 32, math.MaxUint32},
		{1, 1},
		{1 << 31, 1 << 31},
		{1 << 32, 1},
		{1 << 63, 1 << 31},
		{0x0000000100000001, 0},
		{0x8000000000000001, 0x80000001},
		{0x0123456789abcdef, 0x88888888},
		{0xffff0000_00ff00ff, 0xff0000ff},
		{0xaaaaaaaa_55555555, math.MaxUint32},
		{14695981039346656037, 0xcbf29ce4 ^ 0x84222325},
	} {
		if f := fnv.Fold(c.h); f != c.folded {
			t.Errorf("Fold(%#x) = %#x, not %#x", c.h, f, c.folded)
		}
	}
}

// TestP3_1FoldBitByBit: a bit of either half turns the same bit of what is folded.
func TestP3_1FoldBitByBit(t *testing.T) {
	for _, h := range starts() {
		for i := range 64 {
			want := fnv.Fold(h) ^ 1<<(i%32)
			if f := fnv.Fold(h ^ 1<<i); f != want {
				t.Errorf("Fold(%#x, bit %d turned) = %#x, not %#x", h, i, f, want)
			}
		}
	}
}

func TestP3_2EndsKnown(t *testing.T) {
	for _, c := range []struct {
		level int
		keys  string // those of the letters, and of no letter as _, with which a node ends
	}{
		{0, "demnowx"},
		{1, "gmnoqrsxy"},
		{2, "bcju"},
		{19, "aflnotu"},
		{20, "fglmnt"},
		{127, "_bcjmqxy"},
		{128, "_fghpqyz"},
		{255, "degnoprsz"},
		{256, "demnowx"},
		{257, "gmnoqrsxy"},
		{-1, "degnoprsz"},
		{-2, "ahipsz"},
		{-128, "_fghpqyz"},
		{-256, "demnowx"},
		{-257, "degnoprsz"},
		{math.MaxInt, "degnoprsz"},
		{math.MinInt, "demnowx"},
	} {
		for _, letter := range "_abcdefghijklmnopqrstuvwxyz" {
			key := strings.Trim(string(letter), "_")
			if is := fnv.Ends(c.level, key); is != strings.ContainsRune(c.keys, letter) {
				t.Errorf("Ends(%d, %q) = %t", c.level, key, is)
			}
		}
	}
}

func TestP3_2Ends(t *testing.T) {
	for _, level := range levels() {
		for _, key := range texts() {
			if is, want := fnv.Ends(level, key), meantEnds(level, key); is != want {
				t.Errorf("Ends(%d, %q) = %t, not %t", level, key, is, want)
			}
		}
	}
}

func TestP3_2LevelsModulo256(t *testing.T) {
	for level := range 256 {
		for _, key := range texts() {
			is := fnv.Ends(level, key)
			for _, same := range []int{level + 256, level - 256, level + 512, level - 65536, math.MinInt + level, math.MaxInt - 255 + level} {
				if fnv.Ends(same, key) != is {
					t.Fatalf("Ends(%d, %q) isn't as at level %d", same, key, level)
				}
			}
		}
	}
}

// TestP3_2LevelsDiffer: no two levels of a tree end their nodes with the same keys.
func TestP3_2LevelsDiffer(t *testing.T) {
	seen := map[string]int{}
	for level := range 256 {
		var ends strings.Builder
		for _, key := range texts() {
			if fnv.Ends(level, key) {
				ends.WriteByte('1')
			} else {
				ends.WriteByte('0')
			}
		}
		if other, is := seen[ends.String()]; is {
			t.Errorf("levels %d and %d end with the same keys", other, level)
		}
		seen[ends.String()] = level
	}
}

// TestP3_2EachFourthKey: on the average.
func TestP3_2EachFourthKey(t *testing.T) {
	const keys = 65536
	for _, level := range []int{0, 1, 20, 255} {
		n := 0
		for i := range keys {
			if fnv.Ends(level, oneByte(i>>8)+oneByte(i)) {
				n++
			}
		}
		if n < keys/5 || n > keys/3 {
			t.Errorf("level %d: %d of %d keys", level, n, keys)
		}
	}
}

func TestP3_3InPieces(t *testing.T) {
	for _, s := range texts() {
		for _, h := range []uint64{0, 1, 1 << 63, math.MaxUint64, 14695981039346656037} {
			whole := fnv.More(h, s)
			for cut := range len(s) + 1 {
				if got := fnv.More(fnv.More(h, s[:cut]), s[cut:]); got != whole {
					t.Fatalf("More(%d, %q cut at %d) = %d, not %d", h, s, cut, got, whole)
				}
			}
		}
	}
}

func TestP3_3ByteByByte(t *testing.T) {
	for _, s := range texts() {
		h := fnv.Sum("")
		for i := range len(s) {
			h = fnv.More(h, s[i:i+1])
		}
		if h != fnv.Sum(s) {
			t.Errorf("Sum(%q) = %d, byte by byte %d", s, fnv.Sum(s), h)
		}
	}
}

// TestP3AsItsArguments: an answer hangs on the arguments alone, not on what was asked ahead of it.
func TestP3AsItsArguments(t *testing.T) {
	sum, more, fold, ends := fnv.Sum("key"), fnv.More(7, "key"), fnv.Fold(1<<40), fnv.Ends(3, "key")
	for _, level := range levels() {
		fnv.Ends(level, "other")
		fnv.More(fnv.Sum("other"), "other")
		if fnv.Sum("key") != sum || fnv.More(7, "key") != more || fnv.Fold(1<<40) != fold || fnv.Ends(3, "key") != ends {
			t.Fatal("other answers to the same arguments")
		}
	}
}

func FuzzMore(f *testing.F) {
	f.Add(uint64(0), "", 0, 0)
	f.Add(uint64(math.MaxUint64), "foobar", 3, -1)
	f.Add(uint64(14695981039346656037), "\xff\x00é", 2, math.MinInt)
	f.Fuzz(func(t *testing.T, h uint64, s string, cut, level int) {
		whole := fnv.More(h, s)
		if whole != meantMore(h, s) {
			t.Fatalf("More(%d, %q) = %d", h, s, whole)
		}
		cut = min(max(cut, 0), len(s))
		if fnv.More(fnv.More(h, s[:cut]), s[cut:]) != whole {
			t.Fatalf("More(%d, %q) cut at %d", h, s, cut)
		}
		if fnv.Ends(level, s) != meantEnds(level, s) {
			t.Fatalf("Ends(%d, %q)", level, s)
		}
	})
}
