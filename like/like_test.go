package like_test

import (
	"strings"
	"testing"

	"boscage/api"
	"boscage/like"
)

// P4.1: Like, written out.
func TestLike(t *testing.T) {
	for _, x := range []struct {
		s, p string
		want bool
	}{
		{"", "", true}, {"a", "", false}, {"", "a", false}, {"abc", "abc", true}, {"abc", "abd", false}, {"abc", "ab", false}, {"ab", "abc", false}, {"abc", "bc", false},
		{"abc", "ABC", false}, {"abc", "Ab%", false}, {"abc", " abc", false}, {"abc", "abc ", false},
		{"abc", "a%", true}, {"abc", "_b_", true}, {"abc", "%c%", true}, {"abc", "b%", false}, {"abc", "a_", false},
		{"", "%", true}, {"", "%%", true}, {"", "_", false}, {"", "%_", false}, {"", "_%", false}, {"a", "_", true}, {"a", "__", false}, {"ab", "_", false},
		{"a", "%_%", true}, {"a", "_%_", false}, {"ab", "_%_", true}, {"ab", "%__%", true}, {"ab", "%___%", false},
		{"abc", "%b", false}, {"abc", "%b%", true}, {"abc", "%abc%", true}, {"abc", "a%c", true}, {"abc", "a%b", false}, {"abc", "abc%", true}, {"abc", "abcd%", false}, {"abc", "%xabc", false},
		{"aba", "ab%ba", false}, {"abba", "ab%ba", true}, {"a", "a%a", false}, {"aa", "a%a", true}, {"aa", "a%a%a", false},
		{"aXbXc", "a%X%c", true}, {"abab", "%ab", true}, {"ababc", "%abc", true}, {"ababc", "%ab_", true}, {"aab", "%a_", true}, {"aab", "%a%a%", true}, {"aab", "%b%a%", false},
		{"abcabd", "%ab_abd", true}, {"abcabd", "%b%b%", true}, {"abcabd", "%bd%c%", false}, {"abcabd", "a%c%d", true}, {"abcabd", "a%d%c", false},
		{"a%b", "a\\%b", true}, {"axb", "a\\%b", false}, {"ab", "a\\%b", false}, {"50%", "50\\%", true}, {"500", "50\\%", false},
		{"a_b", "a\\_b", true}, {"axb", "a\\_b", false}, {"a\\b", "a\\\\b", true}, {"a\\\\b", "a\\\\b", false}, {"\\", "_", true}, {"\\", "%", true},
		{"\\x", "\\\\%", true}, {"x", "\\\\%", false}, {"\\%", "\\\\\\%", true}, {"\\x", "\\\\\\%", false}, {"100% of", "%\\%%", true}, {"100 of", "%\\%%", false}, {"%%", "\\%%", true}, {"a%", "_\\%", true},
		{"*", "*", true}, {"a", "*", false}, {"a", "?", false}, {"a", ".", false}, {"a", "[a]", false}, {"[a]", "[a]", true}, {"it's", "it'_", true},
		{"a\nb", "a%b", true}, {"a\nb", "a_b", true}, {"a\x00b", "a_b", true}, {"a\x00b", "a\x00%", true}, {"a\x00b", "a", false},
	} {
		is(t, x.s, x.p, x.want, api.OK)
	}
}

// P4.1: bytes count, not runes: a `_` is one of these, whichever it is.
func TestBytes(t *testing.T) {
	for _, x := range []struct {
		s, p string
		want bool
	}{
		{"é", "_", false}, {"é", "__", true}, {"é", "\xc3_", true}, {"é", "_\xa9", true}, {"é", "\xc3%", true}, {"é", "%\xa9", true}, {"é", "%\xc3", false},
		{"日本", "______", true}, {"日本", "__", false}, {"é", "É", false}, {"\ufffd", "\xff", false}, {"\xff", "\ufffd", false}, {"\xff\xfe", "%\xfe", true},
	} {
		is(t, x.s, x.p, x.want, api.OK)
	}
	for _, a := range allBytes() {
		is(t, a, "_", true, api.OK)
		is(t, a, "%", true, api.OK)
		is(t, "", escaped(a), false, api.OK)
		for _, b := range allBytes() {
			is(t, a, escaped(b), a == b, api.OK)
			is(t, "x"+a, "%"+escaped(b), a == b, api.OK)
			is(t, a+"x", escaped(b)+"%", a == b, api.OK)
			is(t, "x"+a+"x", "%x"+escaped(b)+"%", a == b, api.OK)
		}
	}
}

// P4.1: all short patterns, and all short texts.
func TestLikeAll(t *testing.T) {
	for _, x := range []struct{ texts, patterns []string }{
		{textsOf(6, "a", "b"), textsOf(6, "a", "b", "%", "_")},
		{textsOf(4, "a", "%", "_", "\\"), textsOf(5, "a", "%", "_", "\\")},
		{textsOf(3, "a", "%", "\\"), textsOf(4, "a", "%", "_", "\\%", "\\_", "\\\\")},
		{textsOf(9, "a", "b"), textsOf(4, "ab", "a_b", "ba", "%")},
	} {
		for _, p := range x.patterns {
			want := api.OK
			if !isPattern(p) {
				want = api.ErrLike
			}
			if e := like.Check(p); e != want {
				t.Errorf("%s: got %d, want %d", shown(p), e, want)
			}
			for _, s := range x.texts {
				is(t, s, p, want == api.OK && stands(s, p), want)
			}
		}
	}
}

// P4.1: what is no pattern is ErrLike whatever the text is, also where the text would not come as far as that; Like answers false beside it.
func TestNoPattern(t *testing.T) {
	for _, p := range wrongPatterns() {
		if e := like.Check(p); e != api.ErrLike {
			t.Errorf("%s: got %d, want ErrLike", shown(p), e)
		}
		for _, s := range []string{"", "a", "b", "\\", "\\a", "a\\", "%", "x", "é", p} {
			is(t, s, p, false, api.ErrLike)
		}
	}
}

// P4.1: Check of what is one, whatever bytes are in it.
func TestCheck(t *testing.T) {
	l := []string{"", "%", "_", "\\%", "\\_", "\\\\", "\\\\\\\\", "a\\%", "\\%a", "\\\\a", "\\\\%", "%\\\\", "'", "/%", "\xff", "\x00"}
	for _, s := range contents() {
		l = append(l, escaped(s), "%"+escaped(s)+"_")
	}
	for _, p := range l {
		if e := like.Check(p); e != api.OK {
			t.Errorf("%s: got %d, want OK", shown(p), e)
		}
	}
}

// P4.1: many `%`, and long pieces, end soon.
func TestLikeLong(t *testing.T) {
	as := func(n int) string { return strings.Repeat("a", n) }
	for _, x := range []struct {
		s, p string
		want bool
	}{
		{as(200000), strings.Repeat("%a", 100000), true},
		{as(200000), strings.Repeat("%a", 200001), false},
		{as(200000), strings.Repeat("%a", 100000) + "b", false},
		{as(200000), strings.Repeat("%a", 100000) + "b%", false},
		{as(200000), strings.Repeat("a%", 100000) + "b", false},
		{as(200000) + "b", strings.Repeat("a%_%", 50000) + "b", true},
		{as(200000), strings.Repeat("%", 1000000), true},
		{as(200000), strings.Repeat("_", 200000), true},
		{as(200000), strings.Repeat("_", 200001), false},
		{as(200000), strings.Repeat("%_", 200000), true},
		{as(200000), strings.Repeat("%_", 200001), false},
		{as(20000), "%" + as(10000) + "b%", false},
		{as(20000) + "b", "%" + as(10000) + "b%", true},
		{strings.Repeat("ab", 50000), "%" + strings.Repeat("ab%_", 10000) + "b", true},
		{strings.Repeat("%_\\", 50000), strings.Repeat("\\%\\_\\\\", 50000), true},
	} {
		is(t, x.s, x.p, x.want, api.OK)
	}
}

// P4.3: a text is like itself escaped, and no other text is like that.
func TestLikeItself(t *testing.T) {
	for _, s := range contents() {
		is(t, s, escaped(s), true, api.OK)
		is(t, s+"x", escaped(s), false, api.OK)
		is(t, "x"+s, escaped(s), false, api.OK)
		is(t, "x"+s+"x", "%"+escaped(s)+"%", true, api.OK)
	}
	few := textsOf(3, "a", "%", "_", "\\")
	for _, s := range few {
		for _, other := range few {
			is(t, other, escaped(s), other == s, api.OK)
		}
	}
}

// P4.3: `%` is like all.
func TestLikeAnything(t *testing.T) {
	for _, s := range contents() {
		is(t, s, "%", true, api.OK)
		is(t, s, "%%", true, api.OK)
	}
}
