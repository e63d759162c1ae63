package house

import (
	"iter"
	"strconv"
	"strings"

	"merino/api"
	"merino/num"
)

// What is answered to a line that makes no command.
const (
	wrongLine = "? line"
	wrongWord = "? word "
)

// linesOf goes through the lines of a text.
func linesOf(text string) iter.Seq[string] {
	return func(yield func(string) bool) {
		for line := range strings.Lines(text) {
			if !yield(strings.TrimSuffix(line, "\n")) {
				return
			}
		}
	}
}

// wordsOf returns the words of a line. No other byte than a blank parts them.
func wordsOf(line string) []string {
	return strings.FieldsFunc(line, func(r rune) bool { return r == ' ' })
}

// isPlain reports whether a line has only bytes that may stand in it, and not
// too many.
func isPlain(line string) bool {
	for i := range len(line) {
		if line[i] < ' ' || line[i] > '~' {
			return false
		}
	}
	return len(line) <= api.MaxLine
}

// params are the parameters of a command, which are taken one by one.
type params struct {
	words []string
	taken int // how many were taken, though there may be fewer
	wrong int // the number of the first one that is not what it must be, or 0
}

// word takes a parameter as it is.
func (p *params) word() string {
	p.taken++
	if p.taken > len(p.words) {
		return ""
	}
	return p.words[p.taken-1]
}

// number takes a parameter that must be a number.
func (p *params) number() int {
	n, err := num.ParseDecimal(p.word(), 0)
	p.expect(err == api.OK)
	return n
}

// numbers takes all parameters that are left, which must be numbers, from least
// to most of them.
func (p *params) numbers(least, most int) []int {
	left := len(p.words) - p.taken
	var list []int
	for range max(least, min(left, most)) {
		list = append(list, p.number())
	}
	return list
}

// kind takes a parameter that must be a kind.
func (p *params) kind() api.Kind {
	word := p.word()
	p.expect(isKind(word))
	var kind api.Kind
	copy(kind[:], word)
	return kind
}

// rest takes all parameters that are left, and at least one, as they are.
func (p *params) rest() []string {
	list := []string{p.word()}
	for p.taken < len(p.words) {
		list = append(list, p.word())
	}
	return list
}

// expect keeps the number of the parameter that was taken last, if it is the
// first one that is not right.
func (p *params) expect(isRight bool) {
	if !isRight && p.wrong == 0 {
		p.wrong = p.taken
	}
}

// fault returns what is answered to the parameters, or an empty string if the
// command can be made of them.
func (p *params) fault() string {
	switch {
	case p.taken != len(p.words):
		return wrongLine
	case p.wrong > 0:
		return wrongWord + strconv.Itoa(p.wrong)
	}
	return ""
}

// isKind reports whether a word, which is not empty, is a kind.
func isKind(word string) bool {
	for i := range len(word) {
		c := word[i]
		if (c < 'a' || c > 'z') && (c < '0' || c > '9') {
			return false
		}
	}
	return len(word) <= len(api.Kind{})
}
