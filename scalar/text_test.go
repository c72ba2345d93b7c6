package scalar_test

import (
	"math"
	"strings"
	"testing"

	"boscage/api"
)

// P3.3: length, in bytes, of texts and blobs.
func TestLength(t *testing.T) {
	for _, s := range append(contents(), strings.Repeat("é", 100000)) {
		calls(t, "length", []api.Value{text(s)}, num(int64(len(s))), api.OK)
		calls(t, "length", []api.Value{blob(s)}, num(int64(len(s))), api.OK)
	}
}

// P3.3: lower and upper turn the letters A to Z, and no other byte.
func TestLowerUpper(t *testing.T) {
	for c := range 256 {
		s := string([]byte{byte(c)})
		small, great := s, s
		if c >= 'A' && c <= 'Z' {
			small = string([]byte{byte(c) + 32})
		}
		if c >= 'a' && c <= 'z' {
			great = string([]byte{byte(c) - 32})
		}
		calls(t, "lower", []api.Value{text("xY" + s + "Zw")}, text("xy"+small+"zw"), api.OK)
		calls(t, "upper", []api.Value{text("xY" + s + "Zw")}, text("XY"+great+"ZW"), api.OK)
	}
	calls(t, "lower", []api.Value{text("")}, text(""), api.OK)
	calls(t, "upper", []api.Value{text("")}, text(""), api.OK)
	calls(t, "lower", []api.Value{text("É\u212a@[`{")}, text("É\u212a@[`{"), api.OK)
	calls(t, "upper", []api.Value{text("é\u017f\u0131\xff@[`{")}, text("é\u017f\u0131\xff@[`{"), api.OK)
}

// P3.3: trim takes the bytes 32 away at both ends, and no other white ones.
func TestTrim(t *testing.T) {
	for _, x := range [][2]string{
		{"", ""}, {" ", ""}, {"    ", ""}, {"a", "a"}, {" a", "a"}, {"a ", "a"}, {"  a b  ", "a b"},
		{"\ta\n", "\ta\n"}, {" \t a \n ", "\t a \n"}, {" \x00 ", "\x00"}, {"\u00a0a\u2003", "\u00a0a\u2003"}, {" \xff \xff ", "\xff \xff"},
	} {
		calls(t, "trim", []api.Value{text(x[0])}, text(x[1]), api.OK)
	}
}

// placed is what s has at the places from one on, asked place by place.
func placed(s string, from, many int64) string {
	var b []byte
	for i := range len(s) {
		place := int64(i) + 1
		if place >= from && uint64(place)-uint64(from) < uint64(many) {
			b = append(b, s[i])
		}
	}
	return string(b)
}

// P3.3: substr, at all places and ends, and far beyond them.
func TestSubstr(t *testing.T) {
	from := []int64{math.MinInt64, math.MinInt64 + 1, math.MinInt64 + 2, math.MinInt64 + 3, -1 << 32, 1 << 32, math.MaxInt64 - 1, math.MaxInt64}
	many := []int64{1 << 32, math.MaxInt64 - 1, math.MaxInt64}
	for n := int64(-6); n <= 8; n++ {
		from = append(from, n)
		if n >= 0 {
			many = append(many, n, n+10)
		}
	}
	for _, s := range []string{"", "a", "abcd", "é\xff\x00", strings.Repeat("x", 15)} {
		for _, f := range from {
			for _, m := range many {
				want := placed(s, f, m)
				calls(t, "substr", []api.Value{text(s), num(f), num(m)}, text(want), api.OK)
				calls(t, "substr", []api.Value{blob(s), num(f), num(m)}, blob(want), api.OK)
			}
			for _, m := range []int64{-1, -2, math.MinInt64} {
				calls(t, "substr", []api.Value{text(s), num(f), num(m)}, null, api.ErrArg)
				calls(t, "substr", []api.Value{blob(s), num(f), num(m)}, null, api.ErrArg)
			}
		}
	}
}

// P3.3: substr, written out; a number below 0 is asked for behind ErrType and NULL.
func TestSubstrWritten(t *testing.T) {
	for _, x := range []struct {
		a, b, c, want api.Value
		e             api.Errno
	}{
		{text("abcd"), num(2), num(2), text("bc"), api.OK},
		{text("abcd"), num(0), num(2), text("a"), api.OK},
		{text("abcd"), num(1), num(4), text("abcd"), api.OK},
		{text("abcd"), num(4), num(5), text("d"), api.OK},
		{text("abcd"), num(5), num(5), text(""), api.OK},
		{text("abcd"), num(-3), num(5), text("a"), api.OK},
		{text("abcd"), num(-3), num(4), text(""), api.OK},
		{text("abcd"), num(2), num(0), text(""), api.OK},
		{text("abcd"), num(2), num(math.MaxInt64), text("bcd"), api.OK},
		{text("abcd"), num(math.MinInt64), num(math.MaxInt64), text(""), api.OK},
		{text("abcd"), num(math.MinInt64 + 5), num(math.MaxInt64), text("abc"), api.OK},
		{text("é"), num(2), num(1), text("\xa9"), api.OK},
		{text("abcd"), num(9), num(-1), null, api.ErrArg},
		{text(""), num(1), num(-1), null, api.ErrArg},
		{null, num(1), num(-1), null, api.OK},
		{text("a"), null, num(-1), null, api.OK},
		{num(1), num(1), num(-1), null, api.ErrType},
		{text("a"), text("1"), num(-1), null, api.ErrType},
	} {
		calls(t, "substr", []api.Value{x.a, x.b, x.c}, x.want, x.e)
	}
}

// texts are all texts of up to so many of the bytes.
func texts(bytes string, most int) []string {
	out := []string{""}
	for from, n := 0, 0; n < most; n++ {
		end := len(out)
		for _, s := range out[from:end] {
			for i := range len(bytes) {
				out = append(out, s+bytes[i:i+1])
			}
		}
		from = end
	}
	return out
}

func startsWith(s, with string) bool { return len(s) >= len(with) && s[:len(with)] == with }

// P3.3: instr, of all texts of some bytes.
func TestInstr(t *testing.T) {
	for _, s := range texts("ab\xff", 6) {
		for _, find := range texts("ab\xff", 3) {
			want := int64(0)
			for at := len(s); at >= 0; at-- {
				if startsWith(s[at:], find) {
					want = int64(at) + 1
				}
			}
			calls(t, "instr", []api.Value{text(s), text(find)}, num(want), api.OK)
		}
	}
	for _, x := range []struct {
		s, find string
		want    int64
	}{
		{"", "", 1}, {"abc", "", 1}, {"", "a", 0}, {"abc", "c", 3}, {"abc", "C", 0}, {"abc", "abcd", 0},
		{"éa", "a", 3}, {"é", "\xa9", 2}, {"a\x00b", "\x00b", 2}, {strings.Repeat("a", 5000) + "b", "ab", 5000},
	} {
		calls(t, "instr", []api.Value{text(x.s), text(x.find)}, num(x.want), api.OK)
	}
}

// replaced is s with each old put as another, gone through from the left.
func replaced(s, old, put string) string {
	out := ""
	for s != "" {
		if old != "" && startsWith(s, old) {
			out, s = out+put, s[len(old):]
		} else {
			out, s = out+s[:1], s[1:]
		}
	}
	return out
}

// P3.3: replace, of all texts of some bytes.
func TestReplace(t *testing.T) {
	for _, s := range texts("a\xc3\xa9", 5) {
		for _, old := range texts("a\xc3\xa9", 2) {
			for _, put := range []string{"", "a", "\xc3", "aa", "bab"} {
				calls(t, "replace", []api.Value{text(s), text(old), text(put)}, text(replaced(s, old, put)), api.OK)
			}
		}
	}
	for _, x := range [][4]string{
		{"aaa", "aa", "b", "ba"}, {"aaaa", "a", "aa", "aaaaaaaa"}, {"abab", "ab", "", ""}, {"abc", "", "x", "abc"}, {"", "", "x", ""},
		{"", "a", "x", ""}, {"abc", "d", "x", "abc"}, {"abc", "B", "x", "abc"}, {"aXbX", "X", "''", "a''b''"},
	} {
		calls(t, "replace", []api.Value{text(x[0]), text(x[1]), text(x[2])}, text(x[3]), api.OK)
	}
}

// P3.3: replace is ErrOver just where more than 100000 bytes come, but for an empty second one.
func TestReplaceOver(t *testing.T) {
	xs := func(n int) string { return strings.Repeat("x", n) }
	for i, x := range []struct {
		s, old, put, want string
		e                 api.Errno
	}{
		{xs(1000), "x", xs(100), xs(100000), api.OK},
		{xs(1001), "x", xs(100), "", api.ErrOver},
		{xs(1000) + "y", "x", xs(100), "", api.ErrOver},
		{"y", "y", xs(100000), xs(100000), api.OK},
		{"y", "y", xs(100001), "", api.ErrOver},
		{xs(100000), "y", "z", xs(100000), api.OK},
		{xs(100001), "y", "z", "", api.ErrOver},
		{xs(100000), "xx", "xx", xs(100000), api.OK},
		{xs(100001), "xx", "xx", "", api.ErrOver},
		{xs(200000), "xx", "x", xs(100000), api.OK},
		{xs(200001), "xx", "x", "", api.ErrOver},
		{xs(300000), "x", "", "", api.OK},
		{xs(100001), "", "", xs(100001), api.OK},
		{xs(300000), "", "y", xs(300000), api.OK},
		{xs(1 << 20), "x", xs(1 << 20), "", api.ErrOver},
	} {
		want := text(x.want)
		if x.e != api.OK {
			want = null
		}
		l := []api.Value{text(x.s), text(x.old), text(x.put)}
		calls(t, "replace", l, want, x.e)
		if t.Failed() {
			t.Fatalf("at %d", i)
		}
	}
	calls(t, "replace", []api.Value{text(xs(100001)), text("y"), null}, null, api.OK)
	calls(t, "replace", []api.Value{text(xs(100001)), text("y"), num(1)}, null, api.ErrType)
}
