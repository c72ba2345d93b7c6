package token_test

import (
	"slices"
	"strings"
	"testing"

	"boscage/api"
	"boscage/token"
)

// goodStatements are texts that are cut without an error.
func goodStatements(t *testing.T) []string {
	t.Helper()
	l := []string{"", "select A1, 'it''s' from t -- x", "a<>b!=c<=d>=e||f", "insert into t values (1, 'x'), (2, NULL);", "x'0a''b'''1-- c\n-2", "- - -1", "a--b\nc--d", "'a' 'b''c'x'64'"}
	for _, s := range append(textsOf(4, "a", "x", "'", "0", "-", "<", "=", "\n"), joinedTexts(5000, 12, somePieces()...)...) {
		if _, _, e := token.Cut(s); e == api.OK {
			l = append(l, s)
		}
	}
	if len(l) < 1000 {
		t.Fatalf("only %d", len(l))
	}
	return l
}

// moved are tokens, each so many places to the left.
func moved(l []api.Token, by int) []api.Token {
	out := slices.Clone(l)
	for i := range out {
		out[i].At -= by
	}
	return out
}

// P6.3: cut again from one token on, the others are the same.
func TestCutAgain(t *testing.T) {
	for _, s := range goodStatements(t) {
		l, _, _ := token.Cut(s)
		for i, one := range l {
			rest := moved(l[i:], one.At)
			cuts(t, s[one.At:], rest[:len(rest)-1]...)
		}
	}
}

// P6.3: blanks ahead, behind and between change nothing but places.
func TestBlanksBetween(t *testing.T) {
	for _, s := range goodStatements(t) {
		l, _, _ := token.Cut(s)
		// None of these begins with `--`: right behind a `-` the first two would be cut off as blanks.
		for _, blanks := range []string{" ", "\n", "\t\r", " -- ?\n", "\n--'\n"} {
			var b strings.Builder
			b.WriteString(blanks)
			want := slices.Clone(l[:len(l)-1])
			for i := range want {
				want[i].At = b.Len()
				b.WriteString(s[l[i].At:l[i+1].At])
				b.WriteString(blanks)
			}
			if spread := b.String(); len(spread) <= api.MaxText {
				cuts(t, spread, want...)
			}
		}
	}
}
