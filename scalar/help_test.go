package scalar_test

import (
	"fmt"
	"math"
	"testing"

	"boscage/api"
	"boscage/scalar"
)

var (
	null = api.Value{}
	no   = api.Value{Kind: api.Bool}
	yes  = api.Value{Kind: api.Bool, I: 1}
)

func num(n int64) api.Value { return api.Value{Kind: api.Int, I: n} }

func text(s string) api.Value { return api.Value{Kind: api.Text, S: s} }

func blob(s string) api.Value { return api.Value{Kind: api.Blob, S: s} }

// wrongs are values that may not be, of each Kind, and of none.
func wrongs() []api.Value {
	return []api.Value{
		{I: 1}, {S: "x"},
		{Kind: api.Bool, I: 2}, {Kind: api.Bool, I: -1}, {Kind: api.Bool, I: 1, S: "x"},
		{Kind: api.Int, S: "x"}, {Kind: api.Int, I: 1, S: "x"},
		{Kind: api.Text, I: 1}, {Kind: api.Text, I: -1, S: "a"}, {Kind: api.Blob, I: 1, S: "a"},
		{Kind: -1}, {Kind: 5}, {Kind: 64}, {Kind: 66}, {Kind: 258}, {Kind: math.MinInt}, {Kind: math.MaxInt},
	}
}

// some are values that may be, of each Kind.
func some() []api.Value {
	return []api.Value{null, no, yes, num(0), num(1), num(-1), num(math.MinInt64), text(""), text("a"), text("1"), blob(""), blob("a"), blob("\x01")}
}

// numbers are those at which sums, products and quotients turn, and their neighbours.
func numbers() []int64 {
	l := []int64{math.MinInt64, math.MinInt64 + 1, math.MaxInt64 - 1, math.MaxInt64, 3037000499, 3037000500, -3037000499, -3037000500}
	for n := int64(-12); n <= 12; n++ {
		l = append(l, n)
	}
	for _, shift := range []int{15, 16, 31, 32, 33, 61, 62} {
		p := int64(1) << shift
		l = append(l, p-1, p, p+1, -p-1, -p, -p+1)
	}
	for _, by := range []int64{2, 3, 7, 10} {
		l = append(l, math.MaxInt64/by, math.MaxInt64/by+1, math.MinInt64/by, math.MinInt64/by-1)
	}
	return l
}

// contents are texts' bytes, those that are no runes among them.
func contents() []string {
	all := make([]byte, 256)
	for i := range all {
		all[i] = byte(i)
	}
	return []string{"", " ", "  ", "a", "A", "b", "aa", "ab", "ba", "aba", "abab", "aaaa", " a", "a ", " a b ", "'", "\x00", "\x00a", "\t a \n", "é", "É", "\u017f", "\u212a", "\xc3", "\xa9", "\xff\xfe", "a\xffa", string(all)}
}

// is asks what a call answered.
func is(t *testing.T, what string, l []api.Value, got api.Value, e api.Errno, want api.Value, f api.Errno) {
	t.Helper()
	if got != want || e != f {
		t.Errorf("%s of %s: got %s, %d, want %s, %d", what, shown(l...), shown(got), e, shown(want), f)
	}
}

// shown are values as a test tells them, long ones cut.
func shown(l ...api.Value) string {
	s := fmt.Sprintf("%+q", fmt.Sprint(l))
	if len(s) > 300 {
		return s[:300] + ".."
	}
	return s
}

func calls(t *testing.T, name string, l []api.Value, want api.Value, f api.Errno) {
	t.Helper()
	got, e := scalar.Call(name, l...)
	is(t, name, l, got, e, want, f)
}

// listsOf are all lists of so many of the values.
func listsOf(l []api.Value, n int) [][]api.Value {
	out := [][]api.Value{nil}
	for range n {
		var longer [][]api.Value
		for _, shorter := range out {
			for _, v := range l {
				longer = append(longer, append(append([]api.Value{}, shorter...), v))
			}
		}
		out = longer
	}
	return out
}
