package token_test

import (
	"math"
	"math/big"
	"math/rand"
	"regexp"
	"slices"
	"strconv"
	"strings"
	"testing"

	"boscage/api"
	"boscage/token"
)

// The tokens that a test asks for, without their places.
func word(s string) api.Token { return api.Token{Kind: api.TWord, S: s} }
func num(i int64) api.Token   { return api.Token{Kind: api.TInt, I: i} }
func text(s string) api.Token { return api.Token{Kind: api.TText, S: s} }
func blob(s string) api.Token { return api.Token{Kind: api.TBlob, S: s} }
func sign(s string) api.Token { return api.Token{Kind: api.TSign, S: s} }

// at is a token at its place.
func at(place int, t api.Token) api.Token {
	t.At = place
	return t
}

// cuts asks whether s is cut into these tokens, at their places, and the end behind them. Of so many that are asked, one that fails is enough.
func cuts(t *testing.T, s string, want ...api.Token) {
	t.Helper()
	want = append(slices.Clone(want), api.Token{Kind: api.TEnd, At: len(s)})
	if l, place, e := token.Cut(s); !slices.Equal(l, want) || place != 0 || e != api.OK {
		t.Fatalf("%s: got %v, %d, %d, want %v", shown(s), l, place, e, want)
	}
}

// refuses asks whether s is none, and where.
func refuses(t *testing.T, s string, want int) {
	t.Helper()
	if l, place, e := token.Cut(s); l != nil || place != want || e != api.ErrToken {
		t.Fatalf("%s: got %v, %d, %d, want ErrToken at %d", shown(s), l, place, e, want)
	}
}

// shown is a text as a test tells it, a long one cut.
func shown(s string) string {
	if len(s) > 80 {
		return strconv.Quote(s[:80]) + ".."
	}
	return strconv.Quote(s)
}

// bytesButOf are the texts of one byte that is none of these.
func bytesButOf(these string) []string {
	var out []string
	for c := range 256 {
		if strings.IndexByte(these, byte(c)) < 0 {
			out = append(out, string([]byte{byte(c)}))
		}
	}
	return out
}

// textsOf are all texts of at most so many of the pieces.
func textsOf(most int, pieces ...string) []string {
	out := []string{""}
	last := out
	for range most {
		var longer []string
		for _, s := range last {
			for _, p := range pieces {
				longer = append(longer, s+p)
			}
		}
		out, last = append(out, longer...), longer
	}
	return out
}

// joinedTexts are texts of some of the pieces, the same ones each time.
func joinedTexts(many, most int, pieces ...string) []string {
	r := rand.New(rand.NewSource(6))
	var out []string
	for range many {
		var b strings.Builder
		for range r.Intn(most + 1) {
			b.WriteString(pieces[r.Intn(len(pieces))])
		}
		out = append(out, b.String())
	}
	return out
}

// somePieces are what statements are made of, and what they may not have.
func somePieces() []string {
	return []string{"a", "B", "_", "x", "X", "'", "''", "'a'", "x'", "X'0f'", "0", "7", "12", "9223372036854775808", "9223372036854775809", "-", "--", "\n", "\r", "\t", " ", "<", "=", ">", "!", "|", "||", "!=", "<>", "+", "*", "/", "%", "(", ")", ",", ".", ";", "select", "?", "\"", "\x00", "é", "\xff"}
}

// A plain reader of tokens, by patterns, to ask the program against.
var (
	blanksOf = regexp.MustCompile(`^(?:[ \t\n\r]|--[^\n]*)*`)
	textOf   = regexp.MustCompile(`^'(?:[^']|'')*'`)
	blobOf   = regexp.MustCompile(`^[xX]'(?:[0-9a-fA-F][0-9a-fA-F])*'`)
	wordOf   = regexp.MustCompile(`^[A-Za-z_][A-Za-z0-9_]*`)
	numberOf = regexp.MustCompile(`^[0-9]+`)
	signOf   = regexp.MustCompile(`^(?:<>|<=|>=|!=|\|\||[=<>+\-*/%(),.;])`)
	xQuoteOf = regexp.MustCompile(`^[xX]'`)
)

// plainCut is what Cut answers, by the patterns.
func plainCut(s string) ([]api.Token, int, api.Errno) {
	var l []api.Token
	for place := 0; ; {
		place += len(blanksOf.FindString(s[place:]))
		if place == len(s) {
			return append(l, api.Token{Kind: api.TEnd, At: place}), 0, api.OK
		}
		t, n := plainToken(s[place:])
		if n == 0 {
			return nil, place, api.ErrToken
		}
		l = append(l, at(place, t))
		place += n
	}
}

func plainToken(s string) (api.Token, int) {
	if xQuoteOf.MatchString(s) {
		whole := blobOf.FindString(s)
		return blob(plainBytes(whole)), len(whole)
	}
	if whole := wordOf.FindString(s); len(whole) > 32 {
		return api.Token{}, 0
	} else if whole != "" {
		return word(strings.ToLower(whole)), len(whole)
	}
	if whole := numberOf.FindString(s); whole != "" {
		return plainNumber(whole, s[len(whole):])
	}
	if whole := textOf.FindString(s); whole != "" && !strings.HasPrefix(s[len(whole):], "'") {
		return text(strings.ReplaceAll(whole[1:len(whole)-1], "''", "'")), len(whole)
	}
	whole := signOf.FindString(s)
	return sign(strings.Replace(whole, "!=", "<>", 1)), len(whole)
}

// plainBytes are a blob's bytes, by a number without a bound.
func plainBytes(whole string) string {
	if len(whole) <= 3 {
		return ""
	}
	digits := whole[2 : len(whole)-1]
	i, _ := new(big.Int).SetString(digits, 16)
	return string(i.FillBytes(make([]byte, len(digits)/2)))
}

func plainNumber(whole, behind string) (api.Token, int) {
	i, _ := new(big.Int).SetString(whole, 10)
	most := new(big.Int).Lsh(big.NewInt(1), 63)
	if i.Cmp(most) > 0 || wordOf.MatchString(behind) {
		return api.Token{}, 0
	}
	if i.Cmp(most) == 0 {
		return num(math.MinInt64), len(whole)
	}
	return num(i.Int64()), len(whole)
}
