package names_test

import (
	"strings"
	"testing"

	"merino/names"
)

// The document's Terms: a name is 1 to 16 bytes, each a lowercase letter, a
// digit or a hyphen, the first a letter.
func TestValid(t *testing.T) {
	for _, s := range []string{"a", "z", "m-1", "a-", "a--0", "anna", "abcdefghijklmnop", "z999999999999999"} {
		if !names.Valid(s) {
			t.Errorf("%q is a name", s)
		}
	}
	for _, s := range []string{"", "A", "1", "-", "1a", "-a", "aB", "a b", "a_b", " a", "a ", "a\x00", "aä", "ä", "a\xff",
		"abcdefghijklmnopq", strings.Repeat("a", 1000)} {
		if names.Valid(s) {
			t.Errorf("%q is no name", s)
		}
	}
}

// The document's Terms: which bytes a name can begin with, and which can
// follow.
func TestValidBytes(t *testing.T) {
	const letters, others = "abcdefghijklmnopqrstuvwxyz", "0123456789-"
	for c := range 256 {
		b := string([]byte{byte(c)})
		first, later := strings.Contains(letters, b), strings.Contains(letters+others, b)
		if names.Valid(b) != first || names.Valid("a"+b) != later || names.Valid("ab"+b+"c") != later {
			t.Errorf("the byte %d", c)
		}
	}
}
