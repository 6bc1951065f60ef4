package refs_test

import (
	"strings"
	"testing"

	"apograph/api"
	"apograph/refs"
)

const (
	letters = "abcdefghijklmnopqrstuvwxyz"
	within  = letters + "0123456789-"
)

// wrong are names that may not be.
func wrong() []string {
	return []string{
		"", "-", "0", "9a", "-a", "A", "Bad", "mAin", "maiN", "a.b", "a_b", "a b", " a", "a ", "a/", "a@", "@1", "a`", "a{", "`", "{", "a:", "a,",
		"\x00", "a\x00", "\x00a", "\n", "a\n", "é", "aé", "a\xc3", "\xe1", "a\xff", "ａ", "a٣", "a–", "ſ", "aK",
		strings.Repeat("a", 21), strings.Repeat("-", 20), strings.Repeat("é", 10), strings.Repeat("a", 256+20),
	}
}

func names(t *testing.T, s string, want bool) {
	t.Helper()
	if is := refs.Name(s); is != want {
		t.Fatalf("Name(%q): %v", s, is)
	}
}

func TestP16_1Name(t *testing.T) {
	for _, s := range []string{"a", "m", "z", "main", "dev", "v1", "a-", "a1-", "a--", "z9", "v1-0-2", "x0", within[:20], within[17:37], letters[:20]} {
		names(t, s, true)
	}
	for _, s := range wrong() {
		names(t, s, false)
	}
}

func TestP16_1NameLong(t *testing.T) {
	for _, size := range []int{1<<16 + 1, 1<<16 + 20, 1 << 20} {
		names(t, strings.Repeat("a", size), false)
	}
	for size := range 300 {
		for _, rest := range []string{"a", "z", "0", "9", "-"} {
			s := "n" + strings.Repeat(rest, size)
			names(t, s, size < 20)
			names(t, s[1:], size > 0 && size < 21 && rest[0] >= 'a')
		}
	}
}

// P16.1: all texts of one byte and of two.
func TestP16_1NameShort(t *testing.T) {
	many := 0
	for one := range 256 {
		first := string([]byte{byte(one)})
		names(t, first, strings.Contains(letters, first))
		for two := range 256 {
			s := string([]byte{byte(one), byte(two)})
			names(t, s, strings.Contains(letters, s[:1]) && strings.Contains(within, s[1:]))
			if refs.Name(s) {
				many++
			}
		}
	}
	if many != 26*37 {
		t.Error(many)
	}
}

// P16.1: each byte at each place of names of all lengths, by Name and by Make.
func TestP16_1NameBytes(t *testing.T) {
	for size := 1; size <= 22; size++ {
		for at := range size {
			for b := range 256 {
				s := []byte(strings.Repeat("k", size))
				s[at] = byte(b)
				may := within
				if at == 0 {
					may = letters
				}
				is := size <= 20 && strings.IndexByte(may, byte(b)) >= 0
				names(t, string(s), is)
				want := api.ErrName
				if is {
					want = api.OK
				}
				makes(t, refs.New(), branch(string(s), 1), want)
			}
		}
	}
}
