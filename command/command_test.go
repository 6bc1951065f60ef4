package command_test

import (
	"math"
	"math/big"
	"regexp"
	"strings"
	"testing"

	"apograph/api"
	"apograph/command"
)

// The chapter's words, each with its number.
var words = map[int]string{
	1: "put", 2: "del", 3: "get", 4: "scan", 5: "commit", 6: "branch", 7: "tag", 8: "drop", 9: "switch", 10: "reset",
	11: "merge", 12: "resolve", 13: "abort", 14: "pick", 15: "revert", 16: "diff", 17: "log", 18: "base", 19: "gc", 20: "status",
}

// strange are kinds that there aren't.
func strange() []int {
	l := []int{0, 21, 22, -1, -20, 255, 256, math.MaxInt8, math.MaxInt16, math.MaxInt32, math.MinInt32, math.MaxInt, math.MinInt}
	for kind := range words {
		l = append(l, -kind, kind+256, math.MinInt+kind)
	}
	return l
}

var (
	named    = regexp.MustCompile(`\A[a-z][-a-z0-9]{0,19}\z`)
	numbered = regexp.MustCompile(`\A@[1-9][0-9]*\z`)
)

// meantRef tells what the chapter says of a ref, with numbers of any size.
func meantRef(s string) (string, uint64, bool) {
	if named.MatchString(s) {
		return s, 0, true
	}
	if !numbered.MatchString(s) {
		return "", 0, false
	}
	n, _ := new(big.Int).SetString(s[1:], 10)
	if !n.IsUint64() {
		return "", 0, false
	}
	return "", n.Uint64(), true
}

// A refCase is a text with what Ref tells of it.
type refCase struct {
	s    string
	name string
	id   uint64
	is   bool
}

func numbers() []refCase {
	return []refCase{
		{"@7", "", 7, true}, {"@1", "", 1, true}, {"@9", "", 9, true}, {"@10", "", 10, true}, {"@100", "", 100, true}, {"@1234567890", "", 1234567890, true},
		{"@4294967296", "", 1 << 32, true}, {"@9223372036854775807", "", math.MaxInt64, true}, {"@9223372036854775808", "", 1 << 63, true},
		{"@10000000000000000000", "", 10000000000000000000, true},
		{"@18446744073709551609", "", math.MaxUint64 - 6, true}, {"@18446744073709551615", "", math.MaxUint64, true},
		{s: "@18446744073709551616"}, {s: "@18446744073709551617"}, {s: "@18446744073709551620"}, {s: "@19999999999999999999"}, {s: "@36893488147419103233"},
		{s: "@99999999999999999999"}, {s: "@100000000000000000000"}, {s: "@184467440737095516160"}, {s: "@" + strings.Repeat("9", 300)}, {s: "@1" + strings.Repeat("0", 1000)},
		{s: "@07"}, {s: "@0"}, {s: "@00"}, {s: "@01"}, {s: "@001"}, {s: "@018446744073709551615"}, {s: "@" + strings.Repeat("0", 30) + "1"},
	}
}

func otherRefs() []refCase {
	return []refCase{
		{s: ""}, {s: "@"}, {s: "@@"}, {s: "@@1"}, {s: "1@"}, {s: "@1@"}, {s: "@+1"}, {s: "@-1"}, {s: "@-0"}, {s: "@ 1"}, {s: "@1 "}, {s: " @1"}, {s: "@1\n"}, {s: "@1\x00"}, {s: "@\x001"},
		{s: "@1a"}, {s: "@a"}, {s: "@main"}, {s: "@1~2"}, {s: "@1.0"}, {s: "@1e3"}, {s: "@1_0"}, {s: "@_1"}, {s: "@0x1"}, {s: "@0b1"}, {s: "@0o7"}, {s: "@1,000"}, {s: "@f"}, {s: "@½"}, {s: "@١"}, {s: "@１"},
		{s: "@1\xff"}, {s: "@\xff"}, {s: "\xff"}, {s: "\xff\xfe"}, {s: "a\xff"}, {s: "\x80"}, {s: "@\xc0\xb1"},
		{"a", "a", 0, true}, {"main", "main", 0, true}, {"z-9", "z-9", 0, true}, {"a-", "a-", 0, true}, {"a--b", "a--b", 0, true}, {"a0", "a0", 0, true},
		{strings.Repeat("a", 20), strings.Repeat("a", 20), 0, true}, {"a" + strings.Repeat("9", 19), "a" + strings.Repeat("9", 19), 0, true},
		{s: strings.Repeat("a", 21)}, {s: "A"}, {s: "X"}, {s: "aB"}, {s: "0"}, {s: "1"}, {s: "7"}, {s: "18446744073709551615"}, {s: "-"}, {s: "-a"}, {s: "9a"},
		{s: "a b"}, {s: "a_b"}, {s: "a.b"}, {s: "a/b"}, {s: "a~1"}, {s: "main@1"}, {s: "a@"}, {s: "é"}, {s: "aé"}, {s: "a\n"}, {s: " a"},
	}
}

func refCases() []refCase {
	return append(numbers(), otherRefs()...)
}

func asksRef(t *testing.T, s string, name string, id uint64, is bool) {
	t.Helper()
	gotName, gotId, gotIs := command.Ref(s)
	if gotName != name || gotId != id || gotIs != is {
		t.Errorf("Ref(%q): %q %d %t, not %q %d %t", s, gotName, gotId, gotIs, name, id, is)
	}
}

// The chapter's example.
func TestExample(t *testing.T) {
	asksRef(t, "@7", "", 7, true)
	asksRef(t, "@07", "", 0, false)
}

func TestP19_1Ref(t *testing.T) {
	for _, x := range refCases() {
		asksRef(t, x.s, x.name, x.id, x.is)
		if name, id, is := meantRef(x.s); name != x.name || id != x.id || is != x.is {
			t.Errorf("meantRef(%q): %q %d %t", x.s, name, id, is)
		}
	}
}

// Each byte at each place of texts that may be refs.
func TestP19_1EachByte(t *testing.T) {
	for _, s := range []string{"a", "ab", "main-2", "@1", "@12", "@18446744073709551615", strings.Repeat("q", 20), "@"} {
		for at := range len(s) + 1 {
			for b := range 256 {
				for _, end := range []int{at, at + 1} {
					if end > len(s) {
						continue
					}
					x := s[:at] + string([]byte{byte(b)}) + s[end:]
					name, id, is := meantRef(x)
					asksRef(t, x, name, id, is)
				}
			}
		}
	}
}

// All texts of few bytes, made of those that refs are made of and of some that they aren't.
func TestP19_1ShortTexts(t *testing.T) {
	var grow func(string)
	grow = func(s string) {
		name, id, is := meantRef(s)
		asksRef(t, s, name, id, is)
		if len(s) == 5 {
			return
		}
		for _, c := range []string{"@", "0", "1", "9", "a", "-", "+", "A"} {
			grow(s + c)
		}
	}
	grow("")
}

// Numbers around each power of two and of ten, with noughts ahead or none.
func TestP19_1Numbers(t *testing.T) {
	one := big.NewInt(1)
	for power := range 80 {
		for _, base := range []int64{2, 10} {
			n := new(big.Int).Exp(big.NewInt(base), big.NewInt(int64(power)), nil)
			for _, m := range []*big.Int{new(big.Int).Sub(n, one), n, new(big.Int).Add(n, one)} {
				for _, ahead := range []string{"@", "@0", "@00", "", "@-", "@+"} {
					s := ahead + m.String()
					name, id, is := meantRef(s)
					asksRef(t, s, name, id, is)
				}
			}
		}
	}
}

func TestP19_3Writes(t *testing.T) {
	reads := map[int]bool{api.CmdGet: true, api.CmdScan: true, api.CmdDiff: true, api.CmdLog: true, api.CmdBase: true, api.CmdStatus: true}
	full := api.Cmd{Name: "main", Other: "@1", Key: "k", Val: "v", N: 1}
	for kind := -2; kind < 300; kind++ {
		full.Kind = kind
		if command.Writes(api.Cmd{Kind: kind}) == reads[kind] || command.Writes(full) == reads[kind] {
			t.Error(kind)
		}
	}
	for _, kind := range strange() {
		if !command.Writes(api.Cmd{Kind: kind}) {
			t.Error("a kind that there isn't is none of those that read:", kind)
		}
	}
}

func TestP19_3Word(t *testing.T) {
	for kind := -300; kind < 600; kind++ {
		if s := command.Word(kind); s != words[kind] {
			t.Error(kind, s)
		}
	}
	for _, kind := range strange() {
		if s := command.Word(kind); s != "" {
			t.Error(kind, s)
		}
	}
}

// The words go with the constants, not just with the numbers.
func TestP19_3WordsOfConstants(t *testing.T) {
	for kind, word := range map[int]string{
		api.CmdPut: "put", api.CmdDel: "del", api.CmdGet: "get", api.CmdScan: "scan", api.CmdCommit: "commit",
		api.CmdBranch: "branch", api.CmdTag: "tag", api.CmdDrop: "drop", api.CmdSwitch: "switch", api.CmdReset: "reset",
		api.CmdMerge: "merge", api.CmdResolve: "resolve", api.CmdAbort: "abort", api.CmdPick: "pick", api.CmdRevert: "revert",
		api.CmdDiff: "diff", api.CmdLog: "log", api.CmdBase: "base", api.CmdGc: "gc", api.CmdStatus: "status",
	} {
		if command.Word(kind) != word {
			t.Error(kind, command.Word(kind))
		}
	}
}

// P1 and P3: any texts, each call as the one ahead.
func FuzzRef(f *testing.F) {
	for _, x := range refCases() {
		f.Add(x.s)
	}
	f.Fuzz(func(t *testing.T, s string) {
		name, id, is := meantRef(s)
		asksRef(t, s, name, id, is)
		asksRef(t, s, name, id, is)
	})
}
