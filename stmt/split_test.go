package stmt_test

import (
	"math/rand"
	"slices"
	"strings"
	"testing"

	"boscage/api"
	"boscage/stmt"
	"boscage/token"
)

// splits asks what Split answers.
func splits(t *testing.T, s string, want ...string) {
	t.Helper()
	if got, place, err := stmt.Split(s); !slices.Equal(got, want) || place != 0 || err != api.OK {
		t.Fatalf("%.300q: got %q, %d, %d, want %q", s, got, place, err, want)
	}
}

func splitsNot(t *testing.T, s string, place int, want api.Errno) {
	t.Helper()
	if got, at, err := stmt.Split(s); len(got) > 0 || at != place || err != want {
		t.Fatalf("%.300q: got %q, %d, %d, want %d at %d", s, got, at, err, want, place)
	}
}

// P8.2: the texts, byte by byte.
func TestSplit(t *testing.T) {
	splits(t, "")
	splits(t, " \t\r\n-- a; b")
	splits(t, ";")
	splits(t, " ; ;;-- ;\n;")
	splits(t, "begin", "begin")
	splits(t, "begin;", "begin")
	splits(t, ";begin", "begin")
	splits(t, ";;begin;;", "begin")
	splits(t, " begin ", " begin ")
	splits(t, "begin; commit;", "begin", " commit")
	splits(t, "begin;commit", "begin", "commit")
	splits(t, "begin; ;commit ; -- x", "begin", "commit ")
	splits(t, "a;b;c;d", "a", "b", "c", "d")
	splits(t, "a;a;a", "a", "a", "a")
	splits(t, "A\n;\r\n\tB--c\n", "A\n", "\r\n\tB--c\n")
	splits(t, "-- a;\nb; --c;\n", "-- a;\nb")
	splits(t, "a --;", "a --;")
	splits(t, "a --;\n;b", "a --;\n", "b")
	splits(t, "';'", "';'")
	splits(t, "'a;''b;';';;'", "'a;''b;'", "';;'")
	splits(t, "';--';--';", "';--'")
	splits(t, "';--'';'; a", "';--'';'", " a")
	splits(t, "x'3b';X'3B3b'", "x'3b'", "X'3B3b'")
	splits(t, "1;-;(;);,", "1", "-", "(", ")", ",")
	splits(t, "select from; drop ) ;1", "select from", " drop ) ", "1")
	splits(t, "insert into t values (';', x'3b'); -- ;\n delete from t;", "insert into t values (';', x'3b')", " -- ;\n delete from t")
	splits(t, strings.Repeat(";", 4096))
	splits(t, strings.Repeat("a;", 2048), strings.Split(strings.Repeat("a;", 2047)+"a", ";")...)
	splits(t, "'"+strings.Repeat(";", 4094)+"'", "'"+strings.Repeat(";", 4094)+"'")
}

// P8.2: token's error, and its place.
func TestSplitTokens(t *testing.T) {
	splitsNot(t, "?", 0, api.ErrToken)
	splitsNot(t, "a; b; '", 6, api.ErrToken)
	splitsNot(t, "a; 1b; c", 3, api.ErrToken)
	splitsNot(t, "a;x'3;", 2, api.ErrToken)
	splitsNot(t, strings.Repeat("a;", 2048)+" ", 0, api.ErrLong)
	splitsNot(t, strings.Repeat("?", 4097), 0, api.ErrLong)
}

// P8.2, P8.3: all is there again but what has no token; of a text that is split no more is cut off.
func TestSplitAgain(t *testing.T) {
	r := rand.New(rand.NewSource(8))
	pieces := []string{";", ";", ";", " ", "\n", "a", "begin", "'", "';'", "''", "x'3b'", "--", "-- ;\n", "1", "-", "<", "=", "select", "(", ")"}
	good := 0
	for range 20000 {
		var b strings.Builder
		for range r.Intn(12) {
			b.WriteString(pieces[r.Intn(len(pieces))])
		}
		s := b.String()
		l, place, err := token.Cut(s)
		if err != api.OK {
			splitsNot(t, s, place, err)
			continue
		}
		good++
		var want []string
		from := 0
		for i, one := range l {
			if one.Kind != api.TEnd && (one.Kind != api.TSign || one.S != ";") {
				continue
			}
			if i > 0 && l[i-1].At >= from {
				want = append(want, s[from:one.At])
			}
			from = one.At + 1
		}
		splits(t, s, want...)
		for _, piece := range want {
			splits(t, piece, piece)
		}
	}
	if good < 8000 {
		t.Errorf("only %d", good)
	}
}

// R2: what Split answers is the caller's own.
func TestSplitIsNew(t *testing.T) {
	const s = "a; b; c"
	first, _, _ := stmt.Split(s)
	second, _, _ := stmt.Split(s)
	for i := range second {
		second[i] = "spoilt"
	}
	if !slices.Equal(first, []string{"a", " b", " c"}) {
		t.Errorf("got %q", first)
	}
	splits(t, s, "a", " b", " c")
}
