package token_test

import (
	"slices"
	"strings"
	"testing"

	"boscage/api"
	"boscage/token"
)

// P6.1: statements, written out.
func TestCut(t *testing.T) {
	cuts(t, "")
	cuts(t, "select A1, 'it''s' from t -- x", at(0, word("select")), at(7, word("a1")), at(9, sign(",")), at(11, text("it's")), at(19, word("from")), at(24, word("t")))
	cuts(t, "x'0F'", blob("\x0f"))
	cuts(t, "insert into T values(-1,NULL);", at(0, word("insert")), at(7, word("into")), at(12, word("t")), at(14, word("values")), at(20, sign("(")), at(21, sign("-")), at(22, num(1)), at(23, sign(",")), at(24, word("null")), at(28, sign(")")), at(29, sign(";")))
	cuts(t, "t.a>=1.5%b", at(0, word("t")), at(1, sign(".")), at(2, word("a")), at(3, sign(">=")), at(5, num(1)), at(6, sign(".")), at(7, num(5)), at(8, sign("%")), at(9, word("b")))
	cuts(t, "a||'b'||x'63'", at(0, word("a")), at(1, sign("||")), at(3, text("b")), at(6, sign("||")), at(8, blob("c")))
	cuts(t, "1'a'x'62'c'd'2", at(0, num(1)), at(1, text("a")), at(4, blob("b")), at(9, word("c")), at(10, text("d")), at(13, num(2)))
}

// P6.1: each byte alone, and with a word on either side.
func TestEachByte(t *testing.T) {
	const signs, blanks, digits, smalls, greats = "=<>+-*/%(),.;", " \t\n\r", "0123456789", "abcdefghijklmnopqrstuvwxyz_", "ABCDEFGHIJKLMNOPQRSTUVWXYZ"
	for _, c := range strings.Split(signs, "") {
		cuts(t, c, sign(c))
		cuts(t, "k"+c+"k", at(0, word("k")), at(1, sign(c)), at(2, word("k")))
	}
	for _, c := range strings.Split(blanks, "") {
		cuts(t, c)
		cuts(t, c+"k"+c+c+"k"+c, at(1, word("k")), at(4, word("k")))
	}
	for i, c := range strings.Split(digits, "") {
		cuts(t, c, num(int64(i)))
		cuts(t, "k"+c+"k", word("k"+c+"k"))
	}
	for _, c := range strings.Split(smalls+greats, "") {
		cuts(t, c, word(strings.ToLower(c)))
		cuts(t, "k"+c+"k", word("k"+strings.ToLower(c)+"k"))
		cuts(t, "k "+c, at(0, word("k")), at(2, word(strings.ToLower(c))))
		refuses(t, "0"+c, 0)
	}
	for _, c := range bytesButOf(signs + blanks + digits + smalls + greats) {
		refuses(t, c, 0)
		if c == "'" {
			refuses(t, "k'k", 1)
			continue
		}
		refuses(t, "k"+c+"k", 1)
		refuses(t, "0 "+c, 2)
		refuses(t, "0"+c, 1)
	}
}

// P6.1: blanks, with what stands behind `--`.
func TestBlanks(t *testing.T) {
	for _, s := range []string{" ", "\t\r\n ", "--", "-- x", "---", "----", "--\n", "--\n--", "-- 'a\n", "--\x00\xff?\n\n", " --a\r\n\t--b ", "--" + strings.Repeat("?", 4094)} {
		cuts(t, s)
		if len(s) < 4096 {
			cuts(t, "k"+s, word("k"))
		}
	}
	cuts(t, "a---b\nc", at(0, word("a")), at(6, word("c")))
	cuts(t, "a--b\nc", at(0, word("a")), at(5, word("c")))
	cuts(t, "a--b\rc\n--\nd", at(0, word("a")), at(10, word("d")))
	cuts(t, "1--2\n3", at(0, num(1)), at(5, num(3)))
	cuts(t, "-\n-", at(0, sign("-")), at(2, sign("-")))
	cuts(t, "- -1", at(0, sign("-")), at(2, sign("-")), at(3, num(1)))
	cuts(t, "+--\n-", at(0, sign("+")), at(4, sign("-")))
	cuts(t, "'--'--'", text("--"))
	refuses(t, "--\n?", 3)
	refuses(t, "\v", 0)
	refuses(t, "a\f", 1)
	refuses(t, "\u00a0", 0)
	refuses(t, "/* a */ ?", 8)
}

// P6.1: words, and how long they may be.
func TestWords(t *testing.T) {
	for _, s := range []string{"a", "_", "__1_", "t_1", "X", "x1", "xx", "aX", "Z9z", "SELECT", "sElEcT", "nUlL", strings.Repeat("n", 32), strings.Repeat("N", 31) + "9", strings.Repeat("_", 32)} {
		cuts(t, s, word(strings.ToLower(s)))
		cuts(t, s+";"+s, at(0, word(strings.ToLower(s))), at(len(s), sign(";")), at(len(s)+1, word(strings.ToLower(s))))
	}
	cuts(t, "xx'a'", at(0, word("xx")), at(2, text("a")))
	cuts(t, "ax'0a'", at(0, word("ax")), at(2, text("0a")))
	cuts(t, "_x'0a'", at(0, word("_x")), at(2, text("0a")))
	cuts(t, "x '0a'", at(0, word("x")), at(2, text("0a")))
	cuts(t, "y'0a'", at(0, word("y")), at(1, text("0a")))
	cuts(t, "ab"+strings.Repeat(" "+strings.Repeat("c", 32), 2), at(0, word("ab")), at(3, word(strings.Repeat("c", 32))), at(36, word(strings.Repeat("c", 32))))
	for _, s := range []string{strings.Repeat("n", 33), strings.Repeat("N", 33), strings.Repeat("n", 32) + "1", strings.Repeat("_", 4094), strings.Repeat("n", 32) + "x'00'", "x" + strings.Repeat("n", 32) + "?"} {
		refuses(t, s, 0)
		if len(s) < 4000 {
			refuses(t, "a, "+s, 3)
			refuses(t, s+" ?", 0)
		}
	}
	refuses(t, "é", 0)
	refuses(t, "aé", 1)
	refuses(t, "ſ", 0) // a letter that unicode turns to s
	refuses(t, "k\u212a", 1)
}

// P6.1: numbers, and how great they may be.
func TestNumbers(t *testing.T) {
	for s, want := range map[string]int64{
		"0": 0, "1": 1, "9": 9, "10": 10, "007": 7, "00": 0, "2147483648": 1 << 31, "4294967296": 1 << 32,
		"999999999999999999": 999999999999999999, "9223372036854775799": 1<<63 - 9, "9223372036854775800": 1<<63 - 8, "9223372036854775806": 1<<63 - 2, "9223372036854775807": 1<<63 - 1, "9223372036854775808": -1 << 63,
		strings.Repeat("0", 4090) + "12": 12, strings.Repeat("0", 3000) + "9223372036854775808": -1 << 63,
	} {
		cuts(t, s, num(want))
		cuts(t, "-"+s, at(0, sign("-")), at(1, num(want)))
		cuts(t, s+"-1", at(0, num(want)), at(len(s), sign("-")), at(len(s)+1, num(1)))
		refuses(t, s+"a", 0)
	}
	for _, s := range []string{"9223372036854775809", "9223372036854775810", "9223372036854775818", "9300000000000000000", "10000000000000000000", "18446744073709551615", "18446744073709551616", "18446744073709551617", "18446744073709551623", "92233720368547758080", "27670116110564327424", "184467440737095516160", "340282366920938463463374607431768211457", strings.Repeat("9", 4094), strings.Repeat("0", 4000) + "9223372036854775809"} {
		refuses(t, s, 0)
		refuses(t, "- "+s, 2)
		refuses(t, s+"a", 0)
		refuses(t, s+"?", 0)
	}
	for _, s := range []string{"12a", "12_", "1e5", "0x0f", "0x'0f'", "0X'0f'", "1Z", "1_000", "7e+1", "5x'zz'"} {
		refuses(t, s, 0)
		refuses(t, "a,"+s, 2)
	}
	cuts(t, "1.5", at(0, num(1)), at(1, sign(".")), at(2, num(5)))
	cuts(t, "+5", at(0, sign("+")), at(1, num(5)))
	cuts(t, "12'a'", at(0, num(12)), at(2, text("a")))
	refuses(t, "12\xe9", 2)
	refuses(t, "٣", 0)
}

// P6.1: texts, of whatever bytes.
func TestTexts(t *testing.T) {
	for s, want := range map[string]string{"''": "", "''''": "'", "''''''": "''", "'a'": "a", "'A b'": "A b", "'it''s'": "it's", "'''a'": "'a", "'a'''": "a'", "'a''''b'": "a''b", "'\"'": "\"", "'\\'": "\\", "'--'": "--", "'a\n\r\tb'": "a\n\r\tb", "'\x00\xff'": "\x00\xff", "'é日'": "é日", "'x'": "x", "' '": " "} {
		cuts(t, s, text(want))
		cuts(t, "("+s+")", at(0, sign("(")), at(1, text(want)), at(1+len(s), sign(")")))
		cuts(t, s+" "+s, text(want), at(len(s)+1, text(want)))
		refuses(t, s+"'", 0)
		refuses(t, s+" '", len(s)+1)
	}
	for _, c := range bytesButOf("'") {
		cuts(t, "'"+c+"'", text(c))
		cuts(t, "'"+c+"''"+c+"'k", text(c+"'"+c), at(6, word("k")))
		refuses(t, "'"+c, 0)
		refuses(t, "k '"+c, 2)
	}
	cuts(t, "''a", at(0, text("")), at(2, word("a")))
	cuts(t, "'a'5", at(0, text("a")), at(3, num(5)))
	cuts(t, "'"+strings.Repeat("''", 2047)+"'", text(strings.Repeat("'", 2047)))
	cuts(t, "'"+strings.Repeat("?", 4094)+"'", text(strings.Repeat("?", 4094)))
	for _, s := range []string{"'", "'''", "'''''", "'a", "'a''", "'it''s", "''' ", "'a -- '' b", "'a\n", "'x''y''z", "'" + strings.Repeat("''", 2047)} {
		refuses(t, s, 0)
		if len(s) < 4000 {
			refuses(t, "a = "+s, 4)
		}
	}
	refuses(t, "\"a\"", 0)
}

// P6.1: blobs; all two bytes between their `'`.
func TestBlobs(t *testing.T) {
	for s, want := range map[string]string{"''": "", "'00'": "\x00", "'0a'": "\n", "'0A'": "\n", "'fF'": "\xff", "'Ff'": "\xff", "'00010203'": "\x00\x01\x02\x03", "'27'": "'", "'deadBEEF'": "\xde\xad\xbe\xef", "'0123456789'": "\x01\x23\x45\x67\x89", "'" + strings.Repeat("4a", 2046) + "'": strings.Repeat("J", 2046)} {
		cuts(t, "x"+s, blob(want))
		cuts(t, "X"+s, blob(want))
	}
	const hex = "0123456789abcdefABCDEF"
	worth := func(c byte) byte { return byte(strings.IndexByte("0123456789abcdef", c|' ')) }
	for i := range 1 << 16 {
		high, low := byte(i>>8), byte(i)
		if high == '\'' { // which ends the blob
			continue
		}
		s := "x'" + string([]byte{high, low}) + "'"
		if strings.IndexByte(hex, high) >= 0 && strings.IndexByte(hex, low) >= 0 {
			cuts(t, s, blob(string([]byte{worth(high)<<4 | worth(low)})))
		} else {
			refuses(t, s, 0)
		}
	}
	for i := range 16 {
		for c := range 256 {
			if strings.IndexByte(hex, byte(c)) < 0 && c != '\'' {
				digits := []byte("0123456789abcdef")
				digits[i] = byte(c)
				refuses(t, "X'"+string(digits)+"'", 0)
			}
		}
	}
	cuts(t, "x''''", at(0, blob("")), at(3, text("")))
	cuts(t, "x'61''62'", at(0, blob("a")), at(5, text("62")))
	cuts(t, "x'61'x'62'", at(0, blob("a")), at(5, blob("b")))
	cuts(t, "x'61'b 1", at(0, blob("a")), at(5, word("b")), at(7, num(1)))
	cuts(t, ",x'61',", at(0, sign(",")), at(1, blob("a")), at(6, sign(",")))
	for _, s := range []string{"x'", "X'", "x'0", "x'00", "x'0'", "x'000'", "x'0a0'", "x'0g'", "x' 00'", "x'00 '", "x'0 0'", "x'0x'", "x'0x0f'", "x'-1'", "x'+1'", "x'_1'", "x'0_1f'", "x'zz'", "x'z", "x'00\n", "x'é'", "x'0", "x'abc''", "x'0'00'"} {
		refuses(t, s, 0)
		refuses(t, "a "+s, 2)
	}
}

// P6.1: signs; of two bytes the longer one.
func TestSigns(t *testing.T) {
	for _, s := range []string{"<>", "<=", ">=", "||"} {
		cuts(t, s, sign(s))
		cuts(t, "a"+s+"b", at(0, word("a")), at(1, sign(s)), at(3, word("b")))
	}
	cuts(t, "!=", sign("<>"))
	cuts(t, "a!=b", at(0, word("a")), at(1, sign("<>")), at(3, word("b")))
	cuts(t, "=<>+-*/%(),.;", at(0, sign("=")), at(1, sign("<>")), at(3, sign("+")), at(4, sign("-")), at(5, sign("*")), at(6, sign("/")), at(7, sign("%")), at(8, sign("(")), at(9, sign(")")), at(10, sign(",")), at(11, sign(".")), at(12, sign(";")))
	cuts(t, "<=>", at(0, sign("<=")), at(2, sign(">")))
	cuts(t, "<>=", at(0, sign("<>")), at(2, sign("=")))
	cuts(t, "<<=", at(0, sign("<")), at(1, sign("<=")))
	cuts(t, "><", at(0, sign(">")), at(1, sign("<")))
	cuts(t, "=<", at(0, sign("=")), at(1, sign("<")))
	cuts(t, "==", at(0, sign("=")), at(1, sign("=")))
	cuts(t, "< >", at(0, sign("<")), at(2, sign(">")))
	cuts(t, "!==", at(0, sign("<>")), at(2, sign("=")))
	cuts(t, "||||", at(0, sign("||")), at(2, sign("||")))
	cuts(t, "..", at(0, sign(".")), at(1, sign(".")))
	for s, place := range map[string]int{"!": 0, "|": 0, "a ! b": 2, "a ! = b": 2, "| |": 0, "|||": 2, "<!>": 1, "!<": 0, "!!=": 0, "a | b": 2, "=!": 1, ">|": 1, "&": 0, "a:b": 1, "[a]": 0, "{": 0, "#": 0, "$1": 0, "a@b": 1, "^": 0, "`a`": 0, "~1": 0, "?": 0, "\\": 0} {
		refuses(t, s, place)
	}
}

// P6.1: too long, whatever it is made of; the length goes ahead of what is no token.
func TestLong(t *testing.T) {
	cuts(t, strings.Repeat(" ", 4096))
	cuts(t, strings.Repeat(" ", 4095)+"a", at(4095, word("a")))
	refuses(t, strings.Repeat(" ", 4095)+"?", 4095)
	many := make([]api.Token, 4096)
	for i := range many {
		many[i] = at(i, sign("("))
	}
	cuts(t, strings.Repeat("(", 4096), many...)
	for _, s := range []string{strings.Repeat(" ", 4097), strings.Repeat("a ", 2049), "?" + strings.Repeat(" ", 4096), strings.Repeat("n", 4097), "--" + strings.Repeat("a", 4095), "'" + strings.Repeat("a", 4095) + "'", strings.Repeat("\xff", 1000000)} {
		if l, place, e := token.Cut(s); l != nil || place != 0 || e != api.ErrLong {
			t.Errorf("%s: got %d tokens, %d, %d", shown(s), len(l), place, e)
		}
	}
}

// P6.1: the first of several faults.
func TestFirstFault(t *testing.T) {
	for s, place := range map[string]int{"? ?": 0, "a 12b ?": 2, "a x'0' ?": 2, "1 ? 'x": 2, "'?' ? x'0'": 4, "-- ?\n ! 'x": 6, "a 'b' 'c ? ! 12a": 6, "select ' from t where a = 'b'": 28, "x'00' x'0": 6} {
		refuses(t, s, place)
	}
}

// P6.1: all short texts, and many longer ones, asked against the patterns.
func TestCutAll(t *testing.T) {
	l := textsOf(5, "a", "X", "'", "0", "-", "\n", "<", ">", "=", "?")
	l = append(l, textsOf(2, somePieces()...)...)
	l = append(l, joinedTexts(20000, 12, somePieces()...)...)
	good := 0
	for _, s := range l {
		want, place, e := plainCut(s)
		if e != api.OK {
			refuses(t, s, place)
			continue
		}
		good++
		cuts(t, s, want[:len(want)-1]...)
	}
	if good < 20000 {
		t.Errorf("only %d of %d are cut", good, len(l))
	}
}

// R2: what Cut answers is the caller's own.
func TestCutIsNew(t *testing.T) {
	const s = "select a, 'b' || x'63' from t where a <> 12"
	first, _, _ := token.Cut(s)
	kept := slices.Clone(first)
	second, _, _ := token.Cut(s)
	for i := range second {
		second[i] = api.Token{}
	}
	if third, _, _ := token.Cut(s); !slices.Equal(first, kept) || !slices.Equal(third, kept) {
		t.Errorf("got %v and %v, want %v", first, third, kept)
	}
}
