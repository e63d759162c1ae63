// Package names says what a name is: that of a clip, an owner, a lot,
// a buyer or an account.
package names

import "merino/api"

// Valid reports whether s is a name.
func Valid(s string) bool {
	if len(s) == 0 || len(s) > api.MaxName || s[0] < 'a' || s[0] > 'z' {
		return false
	}
	for i := range len(s) {
		c := s[i]
		if (c < 'a' || c > 'z') && (c < '0' || c > '9') && c != '-' {
			return false
		}
	}
	return true
}
