package like_test

import (
	"strings"
	"testing"

	"boscage/api"
	"boscage/like"
)

// is asks what Like answers.
func is(t *testing.T, s, p string, want bool, e api.Errno) {
	t.Helper()
	if got, f := like.Like(s, p); got != want || f != e {
		t.Errorf("%s like %s: got %v, %d, want %v, %d", shown(s), shown(p), got, f, want, e)
	}
}

// begins asks what Prefix answers.
func begins(t *testing.T, p, want string, whole bool) {
	t.Helper()
	if got, w := like.Prefix(p); got != want || w != whole {
		t.Errorf("prefix of %s: got %s, %v, want %s, %v", shown(p), shown(got), w, shown(want), whole)
	}
}

// shown is a text as a test tells it, a long one cut.
func shown(s string) string {
	if len(s) > 60 {
		s = s[:60] + ".."
	}
	return "'" + strings.ToValidUTF8(s, "?") + "'"
}

// textsOf are all texts of at most so many of the pieces.
func textsOf(most int, pieces ...string) []string {
	out := []string{""}
	if most > 0 {
		for _, shorter := range textsOf(most-1, pieces...) {
			for _, p := range pieces {
				out = append(out, p+shorter)
			}
		}
	}
	return out
}

// allBytes are the texts of one byte.
func allBytes() []string {
	var out []string
	for c := range 256 {
		out = append(out, string([]byte{byte(c)}))
	}
	return out
}

// contents are texts, those that are no runes among them.
func contents() []string {
	return append(textsOf(4, "a", "%", "_", "\\"), "abc", "100%", "a_b%c\\d", "é", "日本", "\xff\xfe", "\xc3", "\x00", "a\x00%", "a\n%\r\n", strings.Join(allBytes(), ""), strings.Repeat("%_\\x", 20000))
}

// wrongPatterns are some that are none.
func wrongPatterns() []string {
	l := []string{"\\", "\\\\\\", "a\\", "\\a", "%\\", "%\\b", "_\\", "\\%\\", "\\_\\a", "\\\\\\a", "\\\\a\\", "a%b\\c%d", "%%%\\", "b\\", "\\é", "é\\", "\\\x00", "\\\n", "\\'", "\\*", "\\?", strings.Repeat("a%", 5000) + "\\"}
	for _, c := range allBytes() {
		if c != "%" && c != "_" && c != "\\" {
			l = append(l, "\\"+c, "a\\"+c+"b", "%\\"+c)
		}
	}
	return l
}

// escaped is s with each `%`, `_`, `\` behind a `\`.
func escaped(s string) string {
	return strings.NewReplacer("%", "\\%", "_", "\\_", "\\", "\\\\").Replace(s)
}

// isPattern tells whether no `\` is left, where those are gone that have what they may have behind them.
func isPattern(p string) bool {
	left := strings.NewReplacer("\\\\", "", "\\%", "", "\\_", "").Replace(p)
	return !strings.Contains(left, "\\")
}

// stands tells whether s is what a pattern stands for: each length of what a `%` stands for is tried.
func stands(s, p string) bool {
	if p == "" {
		return s == ""
	}
	if p[0] == '%' {
		return stands(s, p[1:]) || s != "" && stands(s[1:], p)
	}
	if s == "" {
		return false
	}
	if p[0] == '\\' {
		return s[0] == p[1] && stands(s[1:], p[2:])
	}
	return (p[0] == '_' || p[0] == s[0]) && stands(s[1:], p[1:])
}
