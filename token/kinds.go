package token

import (
	"bytes"
	"strconv"
	"strings"

	"boscage/api"
)

// word, number, text, blob and sign each read a token of their kind, with which s begins, as its first byte tells, and tell how many bytes it has: 0, if there is none.

const mostNumber = 1 << 63

// signs has a longer sign ahead of the one that it begins with.
var signs = [...]string{
	"<>", "<=", ">=", "!=", "||",
	"=", "<", ">", "+", "-", "*", "/", "%", "(", ")", ",", ".", ";",
}

func word(s string) (api.Token, int) {
	n := span(s, isWordByte)
	if n > api.MaxName {
		return api.Token{}, 0
	}
	return api.Token{Kind: api.TWord, S: string(bytes.ToLower([]byte(s[:n])))}, n
}

func number(s string) (api.Token, int) {
	n := span(s, isDigit)
	if n < len(s) && isLetter(s[n]) {
		return api.Token{}, 0
	}
	u, err := strconv.ParseUint(s[:n], 10, 64)
	if err != nil || u > mostNumber {
		return api.Token{}, 0
	}
	return api.Token{Kind: api.TInt, I: int64(u)}, n
}

func text(s string) (api.Token, int) {
	var b []byte
	for i := 1; i < len(s); i++ {
		if s[i] == '\'' {
			i++
			if i == len(s) || s[i] != '\'' {
				return api.Token{Kind: api.TText, S: string(b)}, i
			}
		}
		b = append(b, s[i])
	}
	return api.Token{}, 0
}

func beginsBlob(s string) bool {
	return strings.HasPrefix(s, "x'") || strings.HasPrefix(s, "X'")
}

func blob(s string) (api.Token, int) {
	digits, _, ended := strings.Cut(s[2:], "'")
	if !ended || len(digits)%2 != 0 {
		return api.Token{}, 0
	}
	b := make([]byte, len(digits)/2)
	for i := range b {
		u, err := strconv.ParseUint(digits[2*i:2*i+2], 16, 8)
		if err != nil {
			return api.Token{}, 0
		}
		b[i] = byte(u)
	}
	return api.Token{Kind: api.TBlob, S: string(b)}, len(digits) + 3
}

func sign(s string) (api.Token, int) {
	for _, one := range signs {
		if !strings.HasPrefix(s, one) {
			continue
		}
		n := len(one)
		if one == "!=" {
			one = "<>"
		}
		return api.Token{Kind: api.TSign, S: one}, n
	}
	return api.Token{}, 0
}

// span tells how many bytes at s's beginning are such.
func span(s string, such func(byte) bool) int {
	n := 0
	for n < len(s) && such(s[n]) {
		n++
	}
	return n
}

func isBlank(c byte) bool { return c == ' ' || c == '\t' || c == '\n' || c == '\r' }

func isDigit(c byte) bool { return '0' <= c && c <= '9' }

func isLetter(c byte) bool { return 'a' <= c && c <= 'z' || 'A' <= c && c <= 'Z' || c == '_' }

func isWordByte(c byte) bool { return isLetter(c) || isDigit(c) }
