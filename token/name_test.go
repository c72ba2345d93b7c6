package token_test

import (
	"strings"
	"testing"

	"boscage/api"
	"boscage/token"
)

const reserved = "all and as asc begin between blob bool by case commit create cross delete desc distinct drop except exists false from full group having in index inner insert int intersect into is join key left like limit not null offset on or order outer primary right rollback select set table text true union unique update using values where"

// named asks what IsName and Reserved answer.
func named(t *testing.T, s string, name, isReserved bool) {
	t.Helper()
	if a, b := token.IsName(s), token.Reserved(s); a != name || b != isReserved {
		t.Errorf("%s: got %v, %v, want %v, %v", shown(s), a, b, name, isReserved)
	}
}

// P6.2: the words that are reserved, and what is nearly one.
func TestReserved(t *testing.T) {
	are := map[string]int{}
	for _, s := range strings.Fields(reserved) {
		are[s] = 1
	}
	for s := range are {
		named(t, s, false, true)
		named(t, strings.ToUpper(s), false, false)
		named(t, strings.ToUpper(s[:1])+s[1:], false, false)
		named(t, s+"_", true, false)
		named(t, "_"+s, true, false)
		named(t, s+"1", true, false)
		named(t, s+" ", false, false)
		named(t, " "+s, false, false)
		named(t, s+"\x00", false, false)
		for i := range s {
			near := s[:i] + s[i+1:]
			named(t, near, are[near] == 0, are[near] == 1)
			near = s[:i] + "z" + s[i+1:]
			named(t, near, true, false)
		}
		cuts(t, strings.ToUpper(s), word(s))
	}
	named(t, reserved, false, false)
	for _, s := range []string{"all and", "in is", " ", "all ", ""} {
		named(t, s, false, false)
	}
	for _, s := range []string{"integer", "count", "sum", "min", "max", "coalesce", "end", "then", "natural", "default", "check", "foreign", "references", "view", "add", "alter", "with", "if", "transaction", "work", "boolean", "varchar", "unknown", "any", "some", "to", "nulls", "row", "rows", "nul", "nulll", "x"} {
		named(t, s, true, false)
	}
}

// P6.2: names, and what is none.
func TestIsName(t *testing.T) {
	for _, s := range []string{"a", "z", "_", "__", "a1", "_1", "t_1", "x", "xx", "x0", "a_b_c", strings.Repeat("n", 32), strings.Repeat("_", 32), "n" + strings.Repeat("9", 31), strings.Repeat("select", 5)} {
		named(t, s, true, false)
	}
	for _, s := range []string{"", "A", "aB", "Ab", "abC", "1", "1a", "12", "9223372036854775808", "-a", "a ", " a", "a b", "a,b", "a.b", "a--", "--", "a\n", "'a'", "x''", "x'61'", "*", "(a)", "é", "aé", "ſ", "\xff", "a\x00", strings.Repeat("n", 33), strings.Repeat("N", 32), "n" + strings.Repeat("9", 32), strings.Repeat("n", 32) + " ", strings.Repeat("n", 4097), strings.Repeat("n", 1000000), strings.Repeat(" ", 1000000)} {
		named(t, s, false, false)
	}
	const smalls, digits = "abcdefghijklmnopqrstuvwxyz_", "0123456789"
	for c := range 256 {
		s := string([]byte{byte(c)})
		small, digit := strings.Contains(smalls, s), strings.Contains(digits, s)
		named(t, s, small, false)
		named(t, "k"+s, small || digit, false)
		named(t, "k"+s+"k", small || digit, false)
		named(t, s+"k", small, false)
	}
}

// P6.1, P6.2: a name is a text that is cut into one word, which is that text, and not reserved.
func TestIsNameAll(t *testing.T) {
	l := append(textsOf(4, "a", "i", "n", "s", "A", "_", "0", "'", "x", " ", "-"), joinedTexts(20000, 4, append(strings.Fields(reserved), somePieces()...)...)...)
	names := 0
	for _, s := range l {
		tokens, _, e := token.Cut(s)
		is := e == api.OK && len(tokens) == 2 && tokens[0] == word(s)
		named(t, s, is && !token.Reserved(s), is && token.Reserved(s))
		if is {
			names++
		}
	}
	if names < 1000 {
		t.Errorf("only %d names", names)
	}
}
