package value_test

import (
	"math"

	"boscage/api"
)

var (
	null  = api.Value{}
	no    = api.Value{Kind: api.Bool}
	yes   = api.Value{Kind: api.Bool, I: 1}
	wrong = api.Value{Kind: api.Bool, I: 2, S: "x"}
)

func num(n int64) api.Value { return api.Value{Kind: api.Int, I: n} }

func text(s string) api.Value { return api.Value{Kind: api.Text, S: s} }

func blob(s string) api.Value { return api.Value{Kind: api.Blob, S: s} }

// contents are texts' and blobs' bytes, in their order: a byte is no letter, so that those above 127 stand behind the others, and are no runes.
func contents() []string {
	return []string{"", "\x00", "\x00\x00", "\x00a", "\n", " ", "'", "''", "'a", ", ", "0", "A", "NULL", "Z", "a", "a\x00", "a'", "a'b", "aa", "ab", "b", "z", "é", "\x7f", "\x80", "\xc3", "\xff", "\xff\x00", "\xff\xff"}
}

// values are values that may be, of all kinds.
func values() []api.Value {
	l := []api.Value{null, no, yes}
	for _, n := range []int64{math.MinInt64, math.MinInt64 + 1, -1 << 32, -256, -10, -1, 0, 1, 9, 10, 255, 1 << 32, math.MaxInt64 - 1, math.MaxInt64} {
		l = append(l, num(n))
	}
	for _, s := range contents() {
		l = append(l, text(s), blob(s))
	}
	return l
}

// wrongs are values that may not be.
func wrongs() []api.Value {
	l := []api.Value{
		{I: 1}, {I: -1}, {I: math.MinInt64}, {S: "x"}, {S: "\x00"}, {I: 1, S: "x"},
		{Kind: api.Bool, I: 2}, {Kind: api.Bool, I: -1}, {Kind: api.Bool, I: 1 << 32}, {Kind: api.Bool, I: 1<<32 + 1},
		{Kind: api.Bool, S: "x"}, {Kind: api.Bool, I: 1, S: "x"}, {Kind: api.Bool, I: 2, S: "x"},
		{Kind: api.Int, S: "x"}, {Kind: api.Int, I: -7, S: "x"}, {Kind: api.Int, I: 7, S: "\x00"},
		{Kind: api.Text, I: 1}, {Kind: api.Text, I: -1, S: "a"}, {Kind: api.Text, I: math.MaxInt64, S: "a"},
		{Kind: api.Blob, I: 1}, {Kind: api.Blob, I: -1, S: "a"}, {Kind: api.Blob, I: math.MinInt64},
	}
	for _, kind := range []int{-1, 5, 6, 256, 257, 259, -256, 1 << 32, math.MinInt, math.MaxInt} {
		l = append(l, api.Value{Kind: kind}, api.Value{Kind: kind, I: 1}, api.Value{Kind: kind, S: "x"})
	}
	return l
}

// rowsOf are all rows of up to most of the values.
func rowsOf(l []api.Value, most int) []api.Row {
	out := []api.Row{nil}
	for from, n := 0, 0; n < most; n++ {
		end := len(out)
		for _, r := range out[from:end] {
			for _, v := range l {
				longer := append(append(api.Row{}, r...), v)
				out = append(out, longer)
			}
		}
		from = end
	}
	return out
}

// many are as many rows as asked for, some of them often, in no order.
func many(n int) []api.Row {
	l := make([]api.Row, n)
	seed := uint32(1)
	for i := range l {
		seed = seed*1664525 + 1013904223
		x := int64(seed >> 16)
		switch x % 4 {
		case 0:
			l[i] = api.Row{num(x % 500)}
		case 1:
			l[i] = api.Row{num(x % 500), text(string(rune('a' + x%7)))}
		case 2:
			l[i] = api.Row{text(string(rune('a' + x%26))), null}
		case 3:
			l[i] = api.Row{null, num(x), yes}
		}
	}
	return l
}

func copied(l []api.Row) []api.Row {
	out := make([]api.Row, len(l))
	for i, r := range l {
		out[i] = append(api.Row(nil), r...)
	}
	return out
}

func sameList(a, b []api.Row) bool {
	if len(a) != len(b) {
		return false
	}
	for i := range a {
		if len(a[i]) != len(b[i]) {
			return false
		}
		for k := range a[i] {
			if a[i][k] != b[i][k] {
				return false
			}
		}
	}
	return true
}

// shuffled are the rows in another order, the same for the same seed.
func shuffled(l []api.Row, seed uint32) []api.Row {
	out := append([]api.Row(nil), l...)
	for i := len(out) - 1; i > 0; i-- {
		seed = seed*1664525 + 1013904223
		k := int(seed>>8) % (i + 1)
		out[i], out[k] = out[k], out[i]
	}
	return out
}
