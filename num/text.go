package num

import (
	"strconv"
	"strings"

	"merino/api"
)

// maxPlaces is how many digits may stand after the point of a decimal.
const maxPlaces = 9

// Text returns f in decimal, with a slash if it is no integer.
func Text(f api.Frac) (string, api.Errno) {
	if !Valid(f) {
		return "", api.ErrArg
	}
	if f.Den == 1 {
		return strconv.Itoa(f.Num), api.OK
	}
	return strconv.Itoa(f.Num) + "/" + strconv.Itoa(f.Den), api.OK
}

// Parse returns the valid fraction whose Text is s.
func Parse(s string) (api.Frac, api.Errno) {
	top, bottom, found := strings.Cut(s, "/")
	if !found {
		bottom = "1"
	}
	n, topErr := strconv.Atoi(top)
	d, bottomErr := strconv.Atoi(bottom)
	if topErr != nil || bottomErr != nil {
		return api.Frac{}, api.ErrForm
	}
	f := api.Frac{Num: n, Den: d}
	// Atoi takes more than Text writes: plus signs, leading zeros, -0.
	text, err := Text(f)
	if err != api.OK || text != s {
		return api.Frac{}, api.ErrForm
	}
	return f, api.OK
}

// Decimal returns n divided by ten to the power of places in decimal.
func Decimal(n, places int) (string, api.Errno) {
	if !isPlaces(places) {
		return "", api.ErrArg
	}
	text := strconv.FormatUint(size(n), 10)
	if missing := places + 1 - len(text); missing > 0 {
		text = strings.Repeat("0", missing) + text
	}
	if places > 0 {
		point := len(text) - places
		text = text[:point] + "." + text[point:]
	}
	if n < 0 {
		text = "-" + text
	}
	return text, api.OK
}

// ParseDecimal returns the n whose Decimal with these places is s.
func ParseDecimal(s string, places int) (int, api.Errno) {
	if !isPlaces(places) {
		return 0, api.ErrArg
	}
	unsigned, negative := strings.CutPrefix(s, "-")
	digits, ok := digitsOf(unsigned, places)
	if !ok {
		return 0, api.ErrForm
	}
	n := valueOf(digits)
	if negative && n == 0 {
		return 0, api.ErrForm
	}
	if n > api.MaxAmount {
		return 0, api.ErrRange
	}
	return signed(negative, n), api.OK
}

// isPlaces reports whether a decimal can have so many places.
func isPlaces(places int) bool { return 0 <= places && places <= maxPlaces }

// digitsOf returns the digits of s without the point, and whether s has the
// form of a decimal without a sign.
func digitsOf(s string, places int) (string, bool) {
	whole, rest := s, ""
	if places > 0 {
		point := len(s) - places - 1
		if point < 0 || s[point] != '.' {
			return "", false
		}
		whole, rest = s[:point], s[point+1:]
	}
	if whole == "" || len(whole) > 1 && whole[0] == '0' {
		return "", false
	}
	digits := whole + rest
	for _, c := range []byte(digits) {
		if c < '0' || c > '9' {
			return "", false
		}
	}
	return digits, true
}

// valueOf returns the number with these digits; one above MaxAmount stands for
// every number above it, because digits may be of any length.
func valueOf(digits string) uint64 {
	value := uint64(0)
	for _, c := range []byte(digits) {
		value = min(10*value+uint64(c-'0'), api.MaxAmount+1)
	}
	return value
}
