package command_test

import (
	"math"
	"strings"
	"testing"

	"apograph/api"
	"apograph/command"
)

// A part of a command is a field's name with what the chapter asks of it.
type part struct {
	field string
	ask   func(api.Cmd) api.Errno
}

func keyPart() part {
	return part{"Key", func(c api.Cmd) api.Errno { return asked(1 <= len(c.Key) && len(c.Key) <= 40, api.ErrKey) }}
}

func valPart() part {
	return part{"Val", func(c api.Cmd) api.Errno { return asked(len(c.Val) <= 200, api.ErrValue) }}
}

func namePart() part {
	return part{"Name", func(c api.Cmd) api.Errno { return asked(named.MatchString(c.Name), api.ErrName) }}
}

func otherPart(orEmpty bool) part {
	return part{"Other", func(c api.Cmd) api.Errno { return asked(isRef(c.Other, orEmpty), api.ErrRef) }}
}

func numPart(least, most int, e api.Errno) part {
	return part{"N", func(c api.Cmd) api.Errno { return asked(least <= c.N && c.N <= most, e) }}
}

func asked(is bool, e api.Errno) api.Errno {
	if is {
		return api.OK
	}
	return e
}

func isRef(s string, orEmpty bool) bool {
	_, _, is := meantRef(s)
	return is || orEmpty && s == ""
}

// row is the row of the chapter's table.
func row(kind int) []part {
	positive := numPart(0, math.MaxInt, api.ErrRange)
	switch words[kind] {
	case "put":
		return []part{keyPart(), valPart()}
	case "del", "get":
		return []part{keyPart()}
	case "scan":
		return []part{
			{"Key", func(c api.Cmd) api.Errno { return asked(len(c.Key) < 41, api.ErrKey) }},
			{"Val", func(c api.Cmd) api.Errno { return asked(len(c.Val) < 41, api.ErrKey) }},
			positive,
		}
	case "commit":
		return []part{{"Val", func(c api.Cmd) api.Errno { return asked(isText(c.Val), api.ErrText) }}}
	case "branch", "tag":
		return []part{namePart(), otherPart(true)}
	case "drop", "switch":
		return []part{namePart()}
	case "reset", "pick", "revert":
		return []part{otherPart(false)}
	case "merge":
		return []part{otherPart(false), numPart(0, 2, api.ErrPolicy)}
	case "resolve":
		return []part{keyPart(), numPart(0, 3, api.ErrPolicy), valPart(), {"Val", func(c api.Cmd) api.Errno {
			return asked(c.N == 0 || c.Val == "", api.ErrCmd)
		}}}
	case "diff", "base":
		return []part{{"Name", func(c api.Cmd) api.Errno { return asked(isRef(c.Name, true), api.ErrRef) }}, otherPart(true)}
	case "log":
		return []part{otherPart(true), positive}
	}
	return nil
}

func isText(s string) bool {
	odd := strings.IndexFunc(s, func(r rune) bool { return r < ' ' || r > '~' })
	return len(s) <= 60 && odd < 0
}

// without is a command of which one field is zero.
func without(c api.Cmd, field string) api.Cmd {
	switch field {
	case "Name":
		c.Name = ""
	case "Other":
		c.Other = ""
	case "Key":
		c.Key = ""
	case "Val":
		c.Val = ""
	case "N":
		c.N = 0
	}
	return c
}

// meant tells what the chapter says of a command.
func meant(c api.Cmd) api.Errno {
	rest := api.Cmd{Name: c.Name, Other: c.Other, Key: c.Key, Val: c.Val, N: c.N}
	for _, p := range row(c.Kind) {
		rest = without(rest, p.field)
	}
	if words[c.Kind] == "" || rest != (api.Cmd{}) {
		return api.ErrCmd
	}
	for _, p := range row(c.Kind) {
		if e := p.ask(c); e != api.OK {
			return e
		}
	}
	return api.OK
}

func checks(t *testing.T, c api.Cmd, want api.Errno) {
	t.Helper()
	if e := command.Check(c); e != want {
		t.Errorf("%s %+v: %d, not %d", words[c.Kind], c, e, want)
	}
}

func times(many int) string {
	return strings.Repeat("x", many)
}

// right is a command of each kind that may be, with all that it names.
func right(kind int) api.Cmd {
	c := api.Cmd{Kind: kind}
	for _, p := range row(kind) {
		switch p.field {
		case "Name":
			c.Name = "dev"
		case "Other":
			c.Other = "@3"
		case "Key":
			c.Key = "key"
		case "Val":
			c.Val = "value"
		case "N":
			c.N = 2
		}
	}
	if kind == api.CmdResolve {
		c.N = 0
	}
	return c
}

func TestP19_2RightOnes(t *testing.T) {
	for kind := range words {
		checks(t, right(kind), api.OK)
	}
	for _, kind := range []int{api.CmdScan, api.CmdCommit, api.CmdAbort, api.CmdDiff, api.CmdLog, api.CmdBase, api.CmdGc, api.CmdStatus} {
		checks(t, api.Cmd{Kind: kind}, api.OK)
	}
	for kind, e := range map[int]api.Errno{
		api.CmdPut: api.ErrKey, api.CmdDel: api.ErrKey, api.CmdGet: api.ErrKey, api.CmdBranch: api.ErrName, api.CmdTag: api.ErrName, api.CmdDrop: api.ErrName,
		api.CmdSwitch: api.ErrName, api.CmdReset: api.ErrRef, api.CmdMerge: api.ErrRef, api.CmdResolve: api.ErrKey, api.CmdPick: api.ErrRef, api.CmdRevert: api.ErrRef,
	} {
		checks(t, api.Cmd{Kind: kind}, e)
	}
}

func TestP19_2Kinds(t *testing.T) {
	for _, kind := range strange() {
		checks(t, api.Cmd{Kind: kind}, api.ErrCmd)
		for other := range words {
			c := right(other)
			c.Kind = kind
			checks(t, c, api.ErrCmd)
		}
	}
}

// What a kind doesn't name is ErrCmd, alone and with all that it names wrong.
func TestP19_2NotNamed(t *testing.T) {
	names := map[int]string{
		1: "Key Val", 2: "Key", 3: "Key", 4: "Key Val N", 5: "Val", 6: "Name Other", 7: "Name Other", 8: "Name", 9: "Name", 10: "Other",
		11: "Other N", 12: "Key N Val", 13: "", 14: "Other", 15: "Other", 16: "Name Other", 17: "Other N", 18: "Name Other", 19: "", 20: "",
	}
	full := api.Cmd{Name: "dev", Other: "@3", Key: "key", Val: "value", N: 1}
	wrong := api.Cmd{Name: "\x00", Other: "\x00", Key: times(41), Val: times(201), N: -1}
	for kind, l := range names {
		for _, field := range []string{"Name", "Other", "Key", "Val", "N"} {
			if strings.Contains(" "+l+" ", " "+field+" ") {
				continue
			}
			for _, from := range []api.Cmd{full, wrong} {
				c := right(kind)
				lay(&c, from, field)
				checks(t, c, api.ErrCmd)
				all := from
				all.Kind = kind
				checks(t, all, api.ErrCmd)
				checks(t, without(c, field), api.OK)
			}
		}
	}
}

// lay takes one field of another command.
func lay(c *api.Cmd, from api.Cmd, field string) {
	switch field {
	case "Name":
		c.Name = from.Name
	case "Other":
		c.Other = from.Other
	case "Key":
		c.Key = from.Key
	case "Val":
		c.Val = from.Val
	case "N":
		c.N = from.N
	}
}

// bounds are commands at the bounds of each field that they name, and one beyond, with the errors by the chapter.
func bounds() map[api.Cmd]api.Errno {
	m := map[api.Cmd]api.Errno{}
	for _, kind := range []int{api.CmdPut, api.CmdDel, api.CmdGet, api.CmdResolve} {
		for size, e := range map[int]api.Errno{0: api.ErrKey, 1: api.OK, 40: api.OK, 41: api.ErrKey, 300: api.ErrKey} {
			m[api.Cmd{Kind: kind, Key: times(size)}] = e
		}
		m[api.Cmd{Kind: kind, Key: "\x00\xff\n"}] = api.OK
	}
	for _, kind := range []int{api.CmdPut, api.CmdResolve} {
		for size, e := range map[int]api.Errno{0: api.OK, 1: api.OK, 200: api.OK, 201: api.ErrValue, 1000: api.ErrValue} {
			m[api.Cmd{Kind: kind, Key: "k", Val: times(size)}] = e
		}
	}
	for size, e := range map[int]api.Errno{0: api.OK, 1: api.OK, 40: api.OK, 41: api.ErrKey, 200: api.ErrKey} {
		m[api.Cmd{Kind: api.CmdScan, Key: times(size)}] = e
		m[api.Cmd{Kind: api.CmdScan, Val: times(size)}] = e
	}
	m[api.Cmd{Kind: api.CmdScan, Key: "b", Val: "a"}] = api.OK
	for s, e := range map[string]api.Errno{
		"": api.OK, " ": api.OK, "~": api.OK, times(60): api.OK, times(61): api.ErrText, "\x1f": api.ErrText, "\x7f": api.ErrText, "a\n": api.ErrText, "é": api.ErrText, "\xff": api.ErrText,
	} {
		m[api.Cmd{Kind: api.CmdCommit, Val: s}] = e
	}
	return m
}

func TestP19_2Texts(t *testing.T) {
	for c, e := range bounds() {
		checks(t, c, e)
	}
}

func TestP19_2Names(t *testing.T) {
	for _, kind := range []int{api.CmdBranch, api.CmdTag, api.CmdDrop, api.CmdSwitch} {
		for _, x := range refCases() {
			e := api.ErrName
			if x.is && x.name != "" {
				e = api.OK
			}
			checks(t, api.Cmd{Kind: kind, Name: x.s}, e)
		}
	}
}

func TestP19_2Refs(t *testing.T) {
	for _, x := range refCases() {
		e := api.ErrRef
		if x.is {
			e = api.OK
		}
		for _, kind := range []int{api.CmdReset, api.CmdPick, api.CmdRevert, api.CmdMerge} {
			checks(t, api.Cmd{Kind: kind, Other: x.s}, e)
		}
		if x.s == "" {
			e = api.OK
		}
		for _, kind := range []int{api.CmdBranch, api.CmdTag} {
			checks(t, api.Cmd{Kind: kind, Name: "a", Other: x.s}, e)
		}
		for _, kind := range []int{api.CmdDiff, api.CmdBase} {
			checks(t, api.Cmd{Kind: kind, Name: x.s}, e)
			checks(t, api.Cmd{Kind: kind, Other: x.s}, e)
			checks(t, api.Cmd{Kind: kind, Name: x.s, Other: x.s}, e)
		}
		checks(t, api.Cmd{Kind: api.CmdLog, Other: x.s}, e)
	}
}

func TestP19_2Numbers(t *testing.T) {
	for _, n := range []int{math.MinInt, math.MinInt32, -256, -2, -1, 0, 1, 2, 3, 4, 5, 255, 256, 1 << 31, math.MaxInt} {
		checks(t, api.Cmd{Kind: api.CmdScan, N: n}, asked(n >= 0, api.ErrRange))
		checks(t, api.Cmd{Kind: api.CmdLog, N: n}, asked(n >= 0, api.ErrRange))
		checks(t, api.Cmd{Kind: api.CmdMerge, Other: "a", N: n}, asked(n == 0 || n == 1 || n == 2, api.ErrPolicy))
		way := asked(n == 0 || n == 1 || n == 2 || n == 3, api.ErrPolicy)
		checks(t, api.Cmd{Kind: api.CmdResolve, Key: "k", N: n}, way)
		if way == api.OK && n != 0 {
			way = api.ErrCmd
		}
		checks(t, api.Cmd{Kind: api.CmdResolve, Key: "k", N: n, Val: "v"}, way)
	}
}

// P4: the error of the row's first part that has one.
func TestP19_2SeveralFaults(t *testing.T) {
	for c, e := range map[api.Cmd]api.Errno{
		{Kind: api.CmdPut, Val: times(201)}:                                   api.ErrKey,
		{Kind: api.CmdPut, Val: times(201), N: 1}:                             api.ErrCmd,
		{Kind: api.CmdScan, Key: times(41), Val: times(41), N: -1}:            api.ErrKey,
		{Kind: api.CmdScan, Val: times(41), N: -1}:                            api.ErrKey,
		{Kind: api.CmdScan, Key: times(41), N: -1, Other: "a"}:                api.ErrCmd,
		{Kind: api.CmdBranch, Name: "A", Other: "@0"}:                         api.ErrName,
		{Kind: api.CmdTag, Name: "", Other: "@0"}:                             api.ErrName,
		{Kind: api.CmdMerge, Other: "@0", N: 3}:                               api.ErrRef,
		{Kind: api.CmdMerge, N: -1}:                                           api.ErrRef,
		{Kind: api.CmdResolve, Val: times(201), N: 4}:                         api.ErrKey,
		{Kind: api.CmdResolve, Val: times(201), N: 3}:                         api.ErrKey,
		{Kind: api.CmdResolve, Val: "v", N: 1}:                                api.ErrKey,
		{Kind: api.CmdResolve, Key: "k", Val: times(201), N: 4}:               api.ErrPolicy,
		{Kind: api.CmdResolve, Key: "k", Val: times(201), N: -1}:              api.ErrPolicy,
		{Kind: api.CmdResolve, Key: "k", Val: "v", N: 4}:                      api.ErrPolicy,
		{Kind: api.CmdResolve, Key: "k", Val: times(201), N: 3}:               api.ErrValue,
		{Kind: api.CmdResolve, Key: "k", Val: times(200), N: 3}:               api.ErrCmd,
		{Kind: api.CmdResolve, Key: "k", Val: times(201), N: 4, Other: "@1"}:  api.ErrCmd,
		{Kind: api.CmdDiff, Name: "@0", Other: "@0", Key: "k"}:                api.ErrCmd,
		{Kind: api.CmdLog, Other: "@", N: -1}:                                 api.ErrRef,
		{Kind: api.CmdLog, Other: "@", N: -1, Val: times(201)}:                api.ErrCmd,
		{Kind: 21, Name: "A", Other: "@0", Key: times(41), Val: times(201)}:   api.ErrCmd,
		{Kind: -1, Name: "A", Other: "@0", Key: times(41), Val: "\x00", N: 9}: api.ErrCmd,
	} {
		checks(t, c, e)
	}
}

// few are commands of each kind with all that a field may be, at once.
func few(f func(api.Cmd)) {
	kinds := []int{0, 21, -1, math.MaxInt, math.MinInt}
	for kind := range words {
		kinds = append(kinds, kind)
	}
	for _, kind := range kinds {
		for _, name := range []string{"", "a", "@1", "A", times(20), times(21)} {
			for _, other := range []string{"", "b-1", "@7", "@0", "@18446744073709551616", "\xff"} {
				for _, key := range []string{"", "k", times(40), times(41)} {
					for _, val := range []string{"", "v", "\n", times(40), times(41), times(60), times(61), times(200), times(201)} {
						for _, n := range []int{math.MinInt, -1, 0, 1, 2, 3, 4, math.MaxInt} {
							f(api.Cmd{Kind: kind, Name: name, Other: other, Key: key, Val: val, N: n})
						}
					}
				}
			}
		}
	}
}

// All of them, alone and several faults at once.
func TestP19_2All(t *testing.T) {
	told := map[api.Errno]int{}
	few(func(c api.Cmd) {
		e := meant(c)
		told[e]++
		checks(t, c, e)
	})
	for _, e := range []api.Errno{api.OK, api.ErrRange, api.ErrKey, api.ErrValue, api.ErrName, api.ErrRef, api.ErrText, api.ErrPolicy, api.ErrCmd} {
		if told[e] == 0 {
			t.Error("never told:", e)
		}
	}
}
