package code_test

import (
	"math"
	"slices"
	"strings"
	"testing"

	"boscage/api"
	"boscage/code"
)

// written are rows and their bytes, written out.
func written() []struct {
	r api.Row
	b []byte
} {
	long := strings.Repeat("x", 0x010203)
	return []struct {
		r api.Row
		b []byte
	}{
		{nil, join(0)},
		{api.Row{null}, join(1, 0)},
		{api.Row{no}, join(1, 1, 0)},
		{api.Row{yes}, join(1, 1, 1)},
		{api.Row{num(0)}, join(1, 2, 0, 0, 0, 0, 0, 0, 0, 0)},
		{api.Row{num(1)}, join(1, 2, 0, 0, 0, 0, 0, 0, 0, 1)},
		{api.Row{num(-1)}, join(1, 2, 255, 255, 255, 255, 255, 255, 255, 255)},
		{api.Row{num(-2)}, join(1, 2, 255, 255, 255, 255, 255, 255, 255, 254)},
		{api.Row{num(256)}, join(1, 2, 0, 0, 0, 0, 0, 0, 1, 0)},
		{api.Row{num(0x0102030405060708)}, join(1, 2, 1, 2, 3, 4, 5, 6, 7, 8)},
		{api.Row{num(math.MinInt64)}, join(1, 2, 128, 0, 0, 0, 0, 0, 0, 0)},
		{api.Row{num(math.MaxInt64)}, join(1, 2, 127, 255, 255, 255, 255, 255, 255, 255)},
		{api.Row{text("")}, join(1, 3, 0, 0, 0, 0)},
		{api.Row{blob("")}, join(1, 4, 0, 0, 0, 0)},
		{api.Row{text("ab")}, join(1, 3, 0, 0, 0, 2, 97, 98)},
		{api.Row{blob("ab")}, join(1, 4, 0, 0, 0, 2, 97, 98)},
		{api.Row{text("\x00")}, join(1, 3, 0, 0, 0, 1, 0)},
		{api.Row{blob("\x00\xff\x00\x00")}, join(1, 4, 0, 0, 0, 4, 0, 255, 0, 0)},
		{api.Row{text("é")}, join(1, 3, 0, 0, 0, 2, 0xc3, 0xa9)},
		{api.Row{text(long)}, join(1, 3, 0, 1, 2, 3, long)},
		{api.Row{num(1), null}, join(2, 2, 0, 0, 0, 0, 0, 0, 0, 1, 0)},
		{api.Row{null, null, yes, no}, join(4, 0, 0, 1, 1, 1, 0)},
		{api.Row{text("a"), blob("b"), text("")}, join(3, 3, 0, 0, 0, 1, 97, 4, 0, 0, 0, 1, 98, 3, 0, 0, 0, 0)},
		{often(null, 64), join(64, make([]byte, 64))},
	}
}

// P5.1: a row's bytes, written out.
func TestEncode(t *testing.T) {
	for _, x := range written() {
		if b, e := code.Encode(x.r); !slices.Equal(b, x.b) || e != api.OK {
			t.Errorf("%s: got %s, %d", shown(x.r), shown(b), e)
		}
	}
	if b, e := code.Encode(api.Row{}); !slices.Equal(b, []byte{0}) || e != api.OK {
		t.Errorf("of an empty row: got %v, %d", b, e)
	}
}

// P5.1: value.CheckRow's error.
func TestEncodeRefuses(t *testing.T) { refuses(t, code.Encode) }

// R2: what is handed in stays as it is, and the answer is the caller's own.
func TestEncodeIsNew(t *testing.T) { writesAnew(t, code.Encode) }

// decodes asks whether Decode finds a row, and so many bytes of it. Of so many that are asked, one that fails is enough.
func decodes(t *testing.T, b []byte, want api.Row, n int) {
	t.Helper()
	if r, m, e := code.Decode(b); !slices.Equal(r, want) || m != n || e != api.OK {
		t.Fatalf("%s: got %s, %d, %d, want %s, %d", shown(b), shown(r), m, e, shown(want), n)
	}
}

// decodesNone asks whether Decode finds none.
func decodesNone(t *testing.T, b []byte) {
	t.Helper()
	if r, n, e := code.Decode(b); r != nil || n != 0 || e != api.ErrForm {
		t.Fatalf("%s: got %s, %d, %d", shown(b), shown(r), n, e)
	}
}

// P5.1: the rows whose bytes are written out.
func TestDecode(t *testing.T) {
	for _, x := range written() {
		decodes(t, x.b, x.r, len(x.b))
		decodes(t, join(x.b, 9), x.r, len(x.b))
		for k := range min(len(x.b), 300) {
			decodesNone(t, x.b[:k])
		}
		decodesNone(t, x.b[:len(x.b)-1])
	}
}

// P5.1: bytes with which none begin.
func TestDecodeNone(t *testing.T) {
	decodesNone(t, nil)
	decodesNone(t, []byte{})
	for c := range 256 {
		row := make([]byte, 1000)
		row[0] = byte(c)
		if c > 64 {
			decodesNone(t, row)
		} else {
			decodes(t, row, often(null, c), 1+c)
		}
		if c > 4 {
			decodesNone(t, join(1, c, make([]byte, 1000)))
			decodesNone(t, join(2, 0, c, make([]byte, 1000)))
		}
		if c > 1 {
			decodesNone(t, join(1, 1, c))
			decodesNone(t, join(2, 1, c, 0))
			decodesNone(t, join(2, 0, 1, c, 0))
		}
	}
	for _, kind := range []int{api.Text, api.Blob} {
		for _, size := range [][]byte{{0, 0, 0, 4}, {0, 0, 1, 0}, {0, 1, 0, 0}, {1, 0, 0, 0}, {127, 255, 255, 255}, {128, 0, 0, 0}, {128, 0, 0, 1}, {128, 0, 0, 3}, {255, 255, 255, 253}, {255, 255, 255, 255}} {
			decodesNone(t, join(1, kind, size, "abc"))
			decodesNone(t, join(2, kind, size, "abc"))
		}
		decodes(t, join(1, kind, 0, 0, 0, 3, "abc"), api.Row{{Kind: kind, S: "abc"}}, 9)
	}
}

// P5.1: all bytes of a few, asked against all rows that have as few.
func TestDecodeAll(t *testing.T) {
	const most = 7
	some := []byte{0, 1, 2, 3, 4, 5}
	rows := map[string]api.Row{}
	var values []api.Value
	for _, s := range sequences(1, some...) {
		values = append(values, text(string(s)), blob(string(s)))
	}
	short := []api.Value{null, no, yes}
	for _, r := range append(rowsOf(append(values, short...), 2), rowsOf(short, 5)...) {
		if b := must(t, code.Encode, r); len(b) <= most {
			rows[string(b)] = r
		}
	}
	found := 0
	for _, b := range sequences(most, some...) {
		n := 0
		for ; n <= len(b); n++ {
			if r, ok := rows[string(b[:n])]; ok {
				decodes(t, b, r, n)
				found++
				break
			}
		}
		if n > len(b) {
			decodesNone(t, b)
		}
	}
	if found < 1000 {
		t.Errorf("only %d rows found", found)
	}
}

// P5.4: what was written is read as what it was, whatever stands behind it, and not of less.
func TestDecodeBehind(t *testing.T) {
	for _, r := range append(rowsOf(few(), 2), append(rowsOf(values(), 1), longRows()...)...) {
		b := must(t, code.Encode, r)
		decodes(t, b, r, len(b))
		for _, more := range [][]byte{{0}, {1}, {255}, {0, 0, 0, 0, 0, 0, 0, 0, 0}, {1, 1, 1}, {3, 0, 0, 0, 1, 97}, b[:min(len(b), 1000)]} {
			decodes(t, join(b, more), r, len(b))
		}
		decodesNone(t, b[:len(b)-1])
		decodesNone(t, b[:len(b)/2])
	}
}

// P5.4: rows one behind the other are read one behind the other.
func TestDecodeOneByOne(t *testing.T) {
	var all []byte
	rows := rowsOf(few(), 2)
	for _, r := range rows {
		all = append(all, must(t, code.Encode, r)...)
	}
	for _, want := range rows {
		r, n, e := code.Decode(all)
		if !slices.Equal(r, want) || e != api.OK {
			t.Fatalf("%v: got %v, %d", want, r, e)
		}
		all = all[n:]
	}
	if len(all) > 0 {
		t.Errorf("%d bytes are left", len(all))
	}
}

// P5.1, R1: of whatever bytes: a row whose bytes they begin with, or ErrForm.
func TestDecodeNoise(t *testing.T) {
	found := 0
	for seed := range uint32(20000) {
		b := noise(int(seed%97), seed)
		was := slices.Clone(b)
		r, n, e := code.Decode(b)
		if e != api.OK {
			decodesNone(t, b)
			continue
		}
		found++
		if got := must(t, code.Encode, r); !slices.Equal(got, b[:n]) {
			t.Fatalf("%v: got %v, whose bytes are %v", b, r, got)
		}
		if !slices.Equal(b, was) {
			t.Fatal("what was handed in was changed")
		}
	}
	if found < 1000 {
		t.Errorf("only %d rows found", found)
	}
}

// R2: what is written into the bytes behind the call changes no row that was read from them; rows share nothing.
func TestDecodeIsNew(t *testing.T) {
	want := api.Row{text("abc"), blob("\x00d"), num(5)}
	b := must(t, code.Encode, want)
	was := slices.Clone(b)
	r, _, _ := code.Decode(b)
	other, _, _ := code.Decode(b)
	for i := range other {
		other[i] = null
	}
	if !slices.Equal(b, was) {
		t.Error("what was handed in was changed")
	}
	for i := range b {
		b[i] = 1
	}
	if !slices.Equal(r, want) {
		t.Errorf("got %v", r)
	}
}
