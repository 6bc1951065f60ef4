package node

import (
	"apograph/api"
	"apograph/fnv"
)

const top = 20 // the highest level

// texts tells the first key or value that may not be, whatever else is wrong with the node.
func texts(n api.Node) api.Errno {
	for _, x := range n.Entries {
		if e := Key(x.Key); e != api.OK {
			return e
		}
		if e := Val(x.Val); e != api.OK {
			return e
		}
	}
	for _, k := range n.Kids {
		if e := Key(k.Last); e != api.OK {
			return e
		}
	}
	return api.OK
}

// fits tells whether a node has just what one of its level may have.
func fits(n api.Node) bool {
	entries, kids := len(n.Entries) > 0, len(n.Kids) > 0
	if n.Level == 0 {
		return entries && !kids
	}
	return 0 < n.Level && n.Level <= top && kids && !entries
}

// keys are all keys of a node, in the order of its fields.
func keys(n api.Node) []string {
	l := make([]string, 0, len(n.Entries)+len(n.Kids))
	for _, x := range n.Entries {
		l = append(l, x.Key)
	}
	for _, k := range n.Kids {
		l = append(l, k.Last)
	}
	return l
}

// rise tells whether each key is above the one ahead, which doesn't end the node.
func rise(level int, l []string) bool {
	for i := 1; i < len(l); i++ {
		if l[i-1] >= l[i] || ends(level, l[i-1]) {
			return false
		}
	}
	return true
}

// ends: at the highest level no key does, since there is no level above to hold several nodes.
func ends(level int, key string) bool {
	return level < top && fnv.Ends(level, key)
}
