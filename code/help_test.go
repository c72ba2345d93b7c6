package code_test

import (
	"fmt"
	"math"
	"slices"
	"strings"
	"testing"

	"boscage/api"
)

var (
	null = api.Value{}
	no   = api.Value{Kind: api.Bool}
	yes  = api.Value{Kind: api.Bool, I: 1}
)

func num(n int64) api.Value { return api.Value{Kind: api.Int, I: n} }

func text(s string) api.Value { return api.Value{Kind: api.Text, S: s} }

func blob(s string) api.Value { return api.Value{Kind: api.Blob, S: s} }

// numbers are those at which a byte of an Int turns, and their neighbours, rising.
func numbers() []int64 {
	l := []int64{math.MinInt64, math.MinInt64 + 1, math.MaxInt64 - 1, math.MaxInt64, 0, 0x0102030405060708, -0x0102030405060708}
	for shift := range 63 {
		p := int64(1) << shift
		l = append(l, p-1, p, p+1, -p-1, -p, -p+1)
	}
	slices.Sort(l)
	return slices.Compact(l)
}

// contents are texts' and blobs' bytes, rising: zeros, what stands behind them in a key, and bytes that are no runes.
func contents() []string {
	l := []string{"", "a", "ab", "b", "a\x00", "a\x00b", "\x7f", "\x80", "é", "\xc3"}
	for _, s := range []string{"\x00", "\x01", "\xfe", "\xff"} {
		for _, more := range []string{"", "\x00", "\x01", "\x02", "a", "\xfe", "\xff"} {
			l = append(l, s+more, s+more+"\x00", s+more+"\xff")
		}
	}
	slices.Sort(l)
	return slices.Compact(l)
}

// values are values that may be, of all kinds, rising.
func values() []api.Value {
	l := []api.Value{null, no, yes}
	for _, n := range numbers() {
		l = append(l, num(n))
	}
	for _, s := range contents() {
		l = append(l, text(s))
	}
	for _, s := range contents() {
		l = append(l, blob(s))
	}
	return l
}

// few are some of the values, rising.
func few() []api.Value {
	l := []api.Value{null, no, yes}
	for _, n := range []int64{math.MinInt64, -256, -1, 0, 1, 256, math.MaxInt64} {
		l = append(l, num(n))
	}
	for _, kind := range []int{api.Text, api.Blob} {
		for _, s := range []string{"", "\x00", "\x00\x00", "\x00\x01", "\x00\xff", "\x01", "\x02", "a", "a\x00", "aa", "\xff", "\xff\x00"} {
			l = append(l, api.Value{Kind: kind, S: s})
		}
	}
	return l
}

// wrongs are values that may not be.
func wrongs() []api.Value {
	l := []api.Value{
		{I: 1}, {S: "x"}, {I: math.MinInt64},
		{Kind: api.Bool, I: 2}, {Kind: api.Bool, I: -1}, {Kind: api.Bool, I: 256}, {Kind: api.Bool, I: 257}, {Kind: api.Bool, I: 1, S: "x"},
		{Kind: api.Int, S: "x"}, {Kind: api.Int, I: 1, S: "\x00"},
		{Kind: api.Text, I: 1}, {Kind: api.Text, I: -1, S: "a"}, {Kind: api.Blob, I: 1, S: "a"},
	}
	for _, kind := range []int{-1, 5, 6, 255, 256, 257, 258, -256, 1 << 32, math.MinInt, math.MaxInt} {
		l = append(l, api.Value{Kind: kind}, api.Value{Kind: kind, I: 1}, api.Value{Kind: kind, S: "x"})
	}
	return l
}

// rowsOf are all rows of up to most of the values.
func rowsOf(l []api.Value, most int) []api.Row {
	out := []api.Row{nil}
	for from, n := 0, 0; n < most; n++ {
		end := len(out)
		for _, r := range out[from:end] {
			for _, v := range l {
				out = append(out, append(slices.Clone(r), v))
			}
		}
		from = end
	}
	return out
}

// often is a row of n times a value.
func often(v api.Value, n int) api.Row { return slices.Repeat(api.Row{v}, n) }

// longRows are rows as long as they may be, and rows of long texts.
func longRows() []api.Row {
	var l []api.Row
	for _, v := range []api.Value{null, yes, num(-1), text(""), text("\x00"), blob("\x00\xff"), text("abc")} {
		l = append(l, often(v, 63), often(v, 64))
	}
	for _, n := range []int{255, 256, 257, 65535, 65536, 1 << 20} {
		l = append(l, api.Row{text(strings.Repeat("a", n)), no}, api.Row{blob(strings.Repeat("\x00", n)), text(strings.Repeat("\xff", n)), num(7)})
	}
	for i := 0; i+64 <= len(values()); i += 64 {
		l = append(l, values()[i:i+64])
	}
	return l
}

// sequences are all of up to most of the bytes.
func sequences(most int, of ...byte) [][]byte {
	out := [][]byte{nil}
	for from, n := 0, 0; n < most; n++ {
		end := len(out)
		for _, b := range out[from:end] {
			for _, c := range of {
				out = append(out, append(slices.Clone(b), c))
			}
		}
		from = end
	}
	return out
}

// noise are bytes in no order, the same for the same seed: mostly small ones, so that many of them say something.
func noise(n int, seed uint32) []byte {
	b := make([]byte, n)
	for i := range b {
		seed = seed*1664525 + 1013904223
		if b[i] = byte(seed >> 24); seed>>16&7 > 0 {
			b[i] &= 3
		}
	}
	return b
}

// join is bytes put together of bytes, and of texts' bytes.
func join(l ...any) []byte {
	var out []byte
	for _, x := range l {
		switch y := x.(type) {
		case int:
			out = append(out, byte(y))
		case string:
			out = append(out, y...)
		case []byte:
			out = append(out, y...)
		}
	}
	return out
}

// shown is a row, or bytes, as a test tells them, long ones cut.
func shown(x any) string {
	s := fmt.Sprintf("%.100v", x)
	if len(s) > 300 {
		s = s[:300] + ".."
	}
	return s
}

// must is what a call wrote.
func must(t *testing.T, write func(api.Row) ([]byte, api.Errno), r api.Row) []byte {
	t.Helper()
	b, e := write(r)
	if e != api.OK {
		t.Fatalf("%s: got %d", shown(r), e)
	}
	return b
}

// refuses asks whether what writes rows refuses those that may not be, with value.CheckRow's errors.
func refuses(t *testing.T, write func(api.Row) ([]byte, api.Errno)) {
	t.Helper()
	asks := func(r api.Row, want api.Errno) {
		t.Helper()
		if b, e := write(r); b != nil || e != want {
			t.Fatalf("%s: got %s, %d, want %d", shown(r), shown(b), e, want)
		}
	}
	for _, v := range wrongs() {
		asks(api.Row{v}, api.ErrArg)
		asks(api.Row{num(1), v}, api.ErrArg)
		asks(api.Row{v, text("a")}, api.ErrArg)
		asks(append(often(null, 63), v), api.ErrArg)
		asks(append(often(null, 64), v), api.ErrArg)
		asks(append(often(null, 300), v), api.ErrArg)
	}
	for _, n := range []int{65, 66, 128, 255, 256, 257, 320, 70000} {
		asks(often(null, n), api.ErrLong)
		asks(often(text("a"), n), api.ErrLong)
	}
}

// writesAnew asks whether what is written is the caller's own, and the row stays as it is.
func writesAnew(t *testing.T, write func(api.Row) ([]byte, api.Errno)) {
	t.Helper()
	r := api.Row{num(1), text("a\x00b"), blob("c"), yes}
	was := slices.Clone(r)
	b := must(t, write, r)
	first := slices.Clone(b)
	again := must(t, write, r)
	for i := range again {
		again[i]++
	}
	for i := range r {
		r[i] = null
	}
	if !slices.Equal(b, first) {
		t.Error("what was written was changed")
	}
	copy(r, was)
	for i := range b {
		b[i] = 7
	}
	if !slices.Equal(r, was) {
		t.Error("the row was changed")
	}
	if !slices.Equal(must(t, write, r), first) {
		t.Error("written again it is another one")
	}
}
