package stock_test

import (
	"fmt"
	"math"
	"math/rand/v2"
	"strings"
	"testing"

	"merino/api"
	"merino/stock"
)

// dice gives the same numbers in every run.
func dice(seed uint64) *rand.Rand { return rand.New(rand.NewPCG(seed, 4)) }

// hostile are ints at and round the limits.
var hostile = []int{
	math.MinInt, math.MinInt + 1, -api.MaxMass, -2, -1, 0, 1, 2, 3, 16, 17, api.MaxClips, api.MaxClips + 1,
	api.MaxBales, api.MaxBales + 1, api.MaxVersions, api.MaxVersions + 1, api.MaxMass - 1, api.MaxMass,
	api.MaxMass + 1, math.MaxInt - 1, math.MaxInt,
}

// names are valid, notNames are not.
var (
	names    = []string{"a", "z", "m-1", "a-", "a--0", "anna", "abcdefghijklmnop", "z999999999999999"}
	notNames = []string{"", "A", "1", "-", "1a", "-a", "aB", "a b", "a_b", "a.", "a/", "a:", "a`", "a{", "a\x00", "aä", "ä",
		"{", "`", " a", "a ", "abcdefghijklmnopq", strings.Repeat("a", 1000)}
)

var fine, coarse = api.Kind{'a', 'a'}, api.Kind{'b'}

// same fails the test unless a call answered what was wanted.
func same[T comparable](t *testing.T, what any, got T, e api.Errno, want T, wantErr api.Errno) {
	t.Helper()
	if got != want || e != wantErr {
		t.Errorf("%v: got %v, error %d; want %v, error %d", what, got, e, want, wantErr)
	}
}

// fails fails the test unless a call that returns only an error returned this one.
func fails(t *testing.T, what any, e, want api.Errno) {
	t.Helper()
	if e != want {
		t.Errorf("%v: error %d; want %d", what, e, want)
	}
}

// equal fails the test unless two values print alike.
func equal(t *testing.T, what, got, want any) {
	t.Helper()
	if fmt.Sprint(got) != fmt.Sprint(want) {
		t.Errorf("%v: got %v; want %v", what, got, want)
	}
}

// ok fails the test unless all calls succeeded.
func ok(t *testing.T, errs ...api.Errno) {
	t.Helper()
	for i, e := range errs {
		if e != api.OK {
			t.Fatalf("call %d: error %d", i, e)
		}
	}
}

// filled is a store of one clip, m of anna, and a free fine bale of each of
// the masses.
func filled(t *testing.T, masses ...int) *stock.Store {
	t.Helper()
	s := stock.New()
	no, e := s.Clip("m", "anna")
	same(t, "clip", no, e, 1, api.OK)
	receive(t, s, 1, fine, masses...)
	return s
}

// receive makes a bale of each of the masses.
func receive(t *testing.T, s *stock.Store, clip int, kind api.Kind, masses ...int) {
	t.Helper()
	for _, grams := range masses {
		_, e := s.Receive(clip, kind, grams)
		ok(t, e)
	}
}

// now is a view of the current version.
func now(t *testing.T, s *stock.Store) *stock.View {
	t.Helper()
	v, e := s.At(s.Version())
	ok(t, e)
	return v
}

// bale is the record of a bale in the current version.
func bale(t *testing.T, s *stock.Store, no int) api.Bale {
	t.Helper()
	b, e := now(t, s).Bale(no)
	ok(t, e)
	return b
}

// totals are those of a clip in the current version.
func totals(t *testing.T, s *stock.Store, clip int) api.Totals {
	t.Helper()
	n, e := now(t, s).Totals(clip)
	ok(t, e)
	return n
}

// picture is all that a view shows, as a text.
func picture(v *stock.View) string {
	var all strings.Builder
	fmt.Fprintln(&all, v.Clips(), v.Lots())
	for _, b := range v.Bales() {
		sources, _ := v.Sources(b.No)
		heirs, _ := v.Heirs(b.No)
		fmt.Fprintln(&all, b, sources, heirs)
	}
	for _, c := range v.Clips() {
		n, _ := v.Totals(c.No)
		fmt.Fprintln(&all, n)
	}
	return all.String()
}

// pictures are those of all versions of a store.
func pictures(t *testing.T, s *stock.Store) []string {
	t.Helper()
	var all []string
	for i := range s.Version() + 1 {
		v, e := s.At(i)
		ok(t, e)
		all = append(all, picture(v))
	}
	return all
}

// album is all that a store shows, as a text.
func album(t *testing.T, s *stock.Store) string {
	t.Helper()
	return fmt.Sprint(s.Version(), s.Moves(), pictures(t, s))
}

// refused fails the test unless a call returned this error and the store shows
// what it showed before.
func refused(t *testing.T, s *stock.Store, what any, call func() (int, api.Errno), want api.Errno) {
	t.Helper()
	before := album(t, s)
	no, e := call()
	same(t, what, no, e, 0, want)
	if after := album(t, s); after != before {
		t.Errorf("%v: the store was %s and is %s", what, before, after)
	}
}

// do is Do as a call.
func do(s *stock.Store, m api.Move) func() (int, api.Errno) {
	return func() (int, api.Errno) { return s.Do(m) }
}
