package logic_test

import (
	"math"

	"boscage/api"
)

var (
	null = api.Value{}
	no   = api.Value{Kind: api.Bool}
	yes  = api.Value{Kind: api.Bool, I: 1}
)

func num(n int64) api.Value { return api.Value{Kind: api.Int, I: n} }

func text(s string) api.Value { return api.Value{Kind: api.Text, S: s} }

func blob(s string) api.Value { return api.Value{Kind: api.Blob, S: s} }

func truths() []api.Value { return []api.Value{no, null, yes} }

// untruths are values that may be, and are no truths.
func untruths() []api.Value {
	return []api.Value{num(0), num(1), num(-1), text(""), text("TRUE"), text("NULL"), blob(""), blob("\x01")}
}

// ordered are values that may be, of each Kind, in their order.
func ordered() []api.Value {
	l := []api.Value{null, no, yes}
	for _, n := range []int64{math.MinInt64, -256, -1, 0, 1, 2, 255, math.MaxInt64} {
		l = append(l, num(n))
	}
	contents := []string{"", "\x00", "1", "A", "a", "a\x00", "aa", "ab", "b", "\x7f", "\x80", "\xff", "\xff\x00"}
	for _, s := range contents {
		l = append(l, text(s))
	}
	for _, s := range contents {
		l = append(l, blob(s))
	}
	return l
}

// wrongs are values that may not be, of each Kind, and of none.
func wrongs() []api.Value {
	return []api.Value{
		{I: 1}, {S: "x"},
		{Kind: api.Bool, I: 2}, {Kind: api.Bool, I: -1}, {Kind: api.Bool, S: "x"}, {Kind: api.Bool, I: 1, S: "x"},
		{Kind: api.Int, I: 1, S: "x"},
		{Kind: api.Text, I: 1}, {Kind: api.Blob, I: 1, S: "a"},
		{Kind: -1}, {Kind: 5}, {Kind: 256}, {Kind: math.MaxInt},
	}
}

// listsOf are all lists of up to most of the values.
func listsOf(l []api.Value, most int) [][]api.Value {
	out := [][]api.Value{nil}
	for from, n := 0, 0; n < most; n++ {
		end := len(out)
		for _, shorter := range out[from:end] {
			for _, v := range l {
				out = append(out, with(shorter, len(shorter), v))
			}
		}
		from = end
	}
	return out
}

// with is l, and v at a place of it.
func with(l []api.Value, at int, v api.Value) []api.Value {
	out := append([]api.Value{}, l[:at]...)
	out = append(out, v)
	return append(out, l[at:]...)
}

func has(l []api.Value, v api.Value) bool {
	for _, x := range l {
		if x == v {
			return true
		}
	}
	return false
}

func truth(b bool) api.Value {
	if b {
		return yes
	}
	return no
}
