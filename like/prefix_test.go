package like_test

import (
	"strings"
	"testing"

	"boscage/api"
	"boscage/like"
)

// P4.2: Prefix, written out.
func TestPrefix(t *testing.T) {
	for _, x := range []struct {
		p, want string
		whole   bool
	}{
		{"", "", true}, {"a", "a", true}, {"abc", "abc", true}, {"%", "", false}, {"_", "", false}, {"%a", "", false}, {"_a", "", false},
		{"abc%", "abc", false}, {"abc_", "abc", false}, {"a%b", "a", false}, {"a_b%c", "a", false}, {"ab%_", "ab", false}, {"ab_%", "ab", false},
		{"\\%", "%", true}, {"\\_", "_", true}, {"\\\\", "\\", true}, {"50\\%", "50%", true}, {"a\\_b\\\\c", "a_b\\c", true},
		{"\\%%", "%", false}, {"\\__", "_", false}, {"\\\\%", "\\", false}, {"\\\\_", "\\", false}, {"\\\\\\%", "\\%", true}, {"\\\\\\_x", "\\_x", true}, {"a\\%b%c\\_", "a%b", false},
		{"é", "é", true}, {"é%", "é", false}, {"\xff\x00%", "\xff\x00", false}, {"A*?.[", "A*?.[", true},
		{strings.Repeat("a", 100000), strings.Repeat("a", 100000), true}, {strings.Repeat("\\%", 100000) + "_", strings.Repeat("%", 100000), false},
	} {
		begins(t, x.p, x.want, x.whole)
	}
	for _, c := range allBytes() {
		begins(t, "x"+escaped(c), "x"+c, true)
		begins(t, "x"+escaped(c)+"_", "x"+c, false)
		begins(t, "x"+escaped(c)+"%", "x"+c, false)
	}
}

// P4.2: of what is no pattern it is empty and false, also where the fault is behind a `%` or a `_`.
func TestPrefixNoPattern(t *testing.T) {
	l := append(wrongPatterns(), "abc\\", "abc%\\", "abc%def\\g", "abc_\\", "abc_\\d", "\\%\\_\\", strings.Repeat("a", 100000)+"\\")
	for _, p := range l {
		begins(t, p, "", false)
	}
}

// P4.2: Prefix of all short patterns: the longest one that is ahead of each `%` and `_`, put together anew.
func TestPrefixAll(t *testing.T) {
	for _, p := range textsOf(6, "a", "%", "_", "\\") {
		if !isPattern(p) {
			begins(t, p, "", false)
			continue
		}
		// What is behind a `\` is hidden, so that the first `%` or `_` left is no byte that stands for itself.
		hidden := strings.NewReplacer("\\\\", "\x01", "\\%", "\x02", "\\_", "\x03").Replace(p)
		want, _, _ := strings.Cut(strings.ReplaceAll(hidden, "_", "%"), "%")
		whole := want == hidden
		begins(t, p, strings.NewReplacer("\x01", "\\", "\x02", "%", "\x03", "_").Replace(want), whole)
	}
}

// P4.3: a text that is like a pattern begins with its Prefix, and is that, if it is the whole; of a whole one just one text is like it.
func TestLikeBeginsWithPrefix(t *testing.T) {
	texts := textsOf(4, "a", "%", "_", "\\")
	for _, p := range textsOf(5, "a", "%", "_", "\\") {
		prefix, whole := like.Prefix(p)
		for _, s := range texts {
			yes, e := like.Like(s, p)
			if yes && !strings.HasPrefix(s, prefix) {
				t.Errorf("%s is like %s, and does not begin with %s", shown(s), shown(p), shown(prefix))
			}
			if whole && (e != api.OK || yes != (s == prefix)) {
				t.Errorf("%s like %s, which is whole: got %v, %d", shown(s), shown(p), yes, e)
			}
		}
	}
}

// P4.2, P4.3: Prefix of a text escaped is the text, and with a `%` behind it, texts that begin with it are like it.
func TestPrefixOfEscaped(t *testing.T) {
	for _, s := range contents() {
		begins(t, escaped(s), s, true)
		begins(t, escaped(s)+"%", s, false)
		for _, behind := range []string{"", "a", "%", "\\", "é"} {
			is(t, s+behind, escaped(s)+"%", true, api.OK)
		}
	}
}
