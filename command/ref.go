package command

import (
	"strconv"
	"strings"

	"apograph/refs"
)

// Ref: P19.1. The library takes no signs, but it takes noughts ahead, of which 0 itself is one.
func Ref(s string) (name string, id uint64, ok bool) {
	if refs.Name(s) {
		return s, 0, true
	}
	digits, is := strings.CutPrefix(s, "@")
	if !is || strings.HasPrefix(digits, "0") {
		return "", 0, false
	}
	n, err := strconv.ParseUint(digits, 10, 64)
	if err != nil {
		return "", 0, false
	}
	return "", n, true
}
