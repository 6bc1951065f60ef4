package refs

import "apograph/api"

// Name: P16.1. It goes by bytes: no letter of more than one is a small one here.
func Name(s string) bool {
	if s == "" || len(s) > api.MaxName || !letter(s[0]) {
		return false
	}
	for i := range len(s) {
		if !letter(s[i]) && !digit(s[i]) && s[i] != '-' {
			return false
		}
	}
	return true
}

func letter(b byte) bool {
	return 'a' <= b && b <= 'z'
}

func digit(b byte) bool {
	return '0' <= b && b <= '9'
}
