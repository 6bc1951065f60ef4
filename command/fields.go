package command

import (
	"apograph/api"
	"apograph/node"
	"apograph/object"
	"apograph/refs"
)

// named is a command with nothing but what its kind names.
func named(c api.Cmd) api.Cmd {
	only := api.Cmd{Kind: c.Kind}
	switch c.Kind {
	case api.CmdPut:
		only.Key, only.Val = c.Key, c.Val
	case api.CmdDel, api.CmdGet:
		only.Key = c.Key
	case api.CmdScan, api.CmdResolve:
		only.Key, only.Val, only.N = c.Key, c.Val, c.N
	case api.CmdCommit:
		only.Val = c.Val
	case api.CmdBranch, api.CmdTag, api.CmdDiff, api.CmdBase:
		only.Name, only.Other = c.Name, c.Other
	case api.CmdDrop, api.CmdSwitch:
		only.Name = c.Name
	case api.CmdReset, api.CmdPick, api.CmdRevert:
		only.Other = c.Other
	case api.CmdMerge, api.CmdLog:
		only.Other, only.N = c.Other, c.N
	}
	return only
}

// fields tells the first error of what a command names, which stands in another order from kind to kind.
func fields(c api.Cmd) api.Errno {
	switch c.Kind {
	case api.CmdPut:
		return first(node.Key(c.Key), node.Val(c.Val))
	case api.CmdDel, api.CmdGet:
		return node.Key(c.Key)
	case api.CmdScan:
		return first(bound(c.Key), bound(c.Val), count(c.N))
	case api.CmdCommit:
		return unless(object.Text(c.Val), api.ErrText)
	case api.CmdBranch, api.CmdTag:
		return first(name(c.Name), refOrEmpty(c.Other))
	case api.CmdDrop, api.CmdSwitch:
		return name(c.Name)
	case api.CmdReset, api.CmdPick, api.CmdRevert:
		return ref(c.Other)
	case api.CmdMerge:
		return first(ref(c.Other), policy(c.N, api.Theirs))
	case api.CmdResolve:
		return first(node.Key(c.Key), policy(c.N, api.Base), node.Val(c.Val), settled(c))
	case api.CmdDiff, api.CmdBase:
		return first(refOrEmpty(c.Name), refOrEmpty(c.Other))
	case api.CmdLog:
		return first(refOrEmpty(c.Other), count(c.N))
	}
	return api.OK
}

func first(l ...api.Errno) api.Errno {
	for _, e := range l {
		if e != api.OK {
			return e
		}
	}
	return api.OK
}

func unless(is bool, e api.Errno) api.Errno {
	if is {
		return api.OK
	}
	return e
}

// bound: unlike a key a bound may be empty, since a range may have no end.
func bound(s string) api.Errno {
	return unless(len(s) <= api.MaxKey, api.ErrKey)
}

func count(n int) api.Errno {
	return unless(n >= 0, api.ErrRange)
}

func name(s string) api.Errno {
	return unless(refs.Name(s), api.ErrName)
}

func ref(s string) api.Errno {
	_, _, is := Ref(s)
	return unless(is, api.ErrRef)
}

// refOrEmpty: where a ref may be left out, the empty text stands for the Head or for Work.
func refOrEmpty(s string) api.Errno {
	if s == "" {
		return api.OK
	}
	return ref(s)
}

// policy: the ways to settle clashes are numbered from Manual on, up to the last one that may be asked for.
func policy(n, last int) api.Errno {
	return unless(api.Manual <= n && n <= last, api.ErrPolicy)
}

// settled: a clash that is settled for a side takes its value from there.
func settled(c api.Cmd) api.Errno {
	return unless(c.N == api.Manual || c.Val == "", api.ErrCmd)
}
