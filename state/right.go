package state

import (
	"apograph/api"
	"apograph/conflict"
	"apograph/refs"
)

// refsMay tells whether a state's Refs may be, and its Head with them. No name may be empty, so that the first one is above "".
func refsMay(s api.State) bool {
	if len(s.Refs) > api.MaxRefs {
		return false
	}
	ahead, head := "", false
	for _, r := range s.Refs {
		if !refs.Name(r.Name) || r.Name <= ahead || !leads(s, r) {
			return false
		}
		ahead = r.Name
		head = head || r.Name == s.Head && !r.Tag
	}
	return head
}

// leads tells whether a Ref is at a commit, or at none where it may be: only a branch can wait for its first one.
func leads(s api.State, r api.Ref) bool {
	_, is := Find(s, r.Id)
	return is || r.Id == 0 && !r.Tag
}

// madeMay tells whether a state's Made may be. As no Id may be 0, the first one must rise above that.
func madeMay(s api.State) bool {
	if len(s.Made) > api.MaxCommits {
		return false
	}
	ahead := uint64(0)
	for _, m := range s.Made {
		if m.Id <= ahead || m.Id >= s.Next || m.Chunk == 0 {
			return false
		}
		ahead = m.Id
	}
	return true
}

// pendingMay tells whether what is Pending may be, and its Clashes with it.
func pendingMay(s api.State) bool {
	if s.Pending == 0 {
		return len(s.Clashes) == 0
	}
	_, is := Find(s, s.Pending)
	return is && conflict.Right(s.Clashes) == api.OK
}
