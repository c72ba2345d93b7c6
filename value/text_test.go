package value_test

import (
	"math"
	"strings"
	"testing"

	"boscage/api"
	"boscage/value"
)

// P1.3: the text of a value of each kind.
func TestText(t *testing.T) {
	for _, x := range []struct {
		v    api.Value
		want string
	}{
		{null, "NULL"},
		{no, "FALSE"},
		{yes, "TRUE"},
		{num(0), "0"},
		{num(7), "7"},
		{num(-1), "-1"},
		{num(1234567890), "1234567890"},
		{num(math.MaxInt64), "9223372036854775807"},
		{num(math.MinInt64), "-9223372036854775808"},
		{text(""), "''"},
		{text("a"), "'a'"},
		{text("it's"), "'it''s'"},
		{text("'"), "''''"},
		{text("''"), "''''''"},
		{text("'a'"), "'''a'''"},
		{text("NULL"), "'NULL'"},
		{text("a\nb\\n\"\t"), "'a\nb\\n\"\t'"},
		{text("\x00\x7f\x80\xff'\xc3"), "'\x00\x7f\x80\xff''\xc3'"},
		{text("é€"), "'é€'"},
		{blob(""), "x''"},
		{blob("\x00\xff"), "x'00ff'"},
		{blob("'"), "x'27'"},
		{blob("\x01\x23\x45\x67\x89\xab\xcd\xef"), "x'0123456789abcdef'"},
		{blob("\xfe\xdc\xba\x98\x76\x54\x32\x10"), "x'fedcba9876543210'"},
		{blob("é"), "x'c3a9'"},
	} {
		if got, e := value.Text(x.v); got != x.want || e != api.OK {
			t.Errorf("%v: got %q, %d, want %q", x.v, got, e, x.want)
		}
	}
}

// P1.3: all bytes, in a Text and in a Blob.
func TestTextBytes(t *testing.T) {
	for i := range 256 {
		s := string([]byte{byte(i)})
		in := s
		if s == "'" {
			in = "''"
		}
		if got, e := value.Text(text(s)); got != "'"+in+"'" || e != api.OK {
			t.Errorf("text of %d: got %q, %d", i, got, e)
		}
		hex := "0123456789abcdef"
		want := "x'" + hex[i/16:i/16+1] + hex[i%16:i%16+1] + "'"
		if got, e := value.Text(blob(s)); got != want || e != api.OK {
			t.Errorf("blob of %d: got %q, %d", i, got, e)
		}
	}
}

// P1.3: long ones.
func TestTextLong(t *testing.T) {
	n := 100000
	if got, e := value.Text(text(strings.Repeat("'", n))); got != strings.Repeat("'", 2*n+2) || e != api.OK {
		t.Errorf("text: got %d bytes, %d", len(got), e)
	}
	if got, e := value.Text(blob(strings.Repeat("\x0f", n))); got != "x'"+strings.Repeat("0f", n)+"'" || e != api.OK {
		t.Errorf("blob: got %d bytes, %d", len(got), e)
	}
}

// P1.3: Check's error, and no text.
func TestTextWrong(t *testing.T) {
	for _, v := range wrongs() {
		if got, e := value.Text(v); got != "" || e != api.ErrArg {
			t.Errorf("%v: got %q, %d", v, got, e)
		}
	}
}

// P1.3: rows' texts.
func TestRowText(t *testing.T) {
	for _, x := range []struct {
		r    api.Row
		want string
	}{
		{nil, "()"},
		{api.Row{}, "()"},
		{api.Row{null}, "(NULL)"},
		{api.Row{num(1), null}, "(1, NULL)"},
		{api.Row{text("a, b"), text("it's")}, "('a, b', 'it''s')"},
		{api.Row{no, yes, num(-5), text(""), blob("\x00"), null}, "(FALSE, TRUE, -5, '', x'00', NULL)"},
		{make(api.Row, 64), "(" + strings.Repeat("NULL, ", 63) + "NULL)"},
	} {
		if got, e := value.RowText(x.r); got != x.want || e != api.OK {
			t.Errorf("%v: got %q, %d, want %q", x.r, got, e, x.want)
		}
	}
}

// P1.3: CheckRow's error, and no text: ErrArg ahead of ErrLong.
func TestRowTextWrong(t *testing.T) {
	if got, e := value.RowText(make(api.Row, 65)); got != "" || e != api.ErrLong {
		t.Errorf("65 values: got %q, %d", got, e)
	}
	for _, n := range []int{1, 64, 65, 100} {
		r := make(api.Row, n)
		r[n-1] = wrong
		if got, e := value.RowText(r); got != "" || e != api.ErrArg {
			t.Errorf("a wrong one of %d: got %q, %d", n, got, e)
		}
	}
}

// P1.4: values that may be have the same text, just if they are the same.
func TestTextsTellValuesApart(t *testing.T) {
	l := values()
	for i := range 256 {
		l = append(l, num(int64(i-128)*1000003), text("b"+string([]byte{byte(i)})), blob("b"+string([]byte{byte(i)})))
	}
	for _, s := range []string{"NULL", "TRUE", "FALSE", "0", "-1", "x'00'", "''", "x''"} {
		l = append(l, text(s+s), blob(s+s))
	}
	whose := map[string]api.Value{}
	for _, v := range l {
		s, e := value.Text(v)
		if e != api.OK {
			t.Fatalf("%v: got %d", v, e)
		}
		if w, ok := whose[s]; ok && !value.Same(v, w) {
			t.Errorf("%v and %v: both %q", v, w, s)
		}
		whose[s] = v
		if again, _ := value.Text(v); again != s {
			t.Errorf("%v: first %q, then %q", v, s, again)
		}
	}
}
