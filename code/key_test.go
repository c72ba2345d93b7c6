package code_test

import (
	"bytes"
	"math"
	"slices"
	"testing"

	"boscage/api"
	"boscage/code"
	"boscage/value"
)

// keys are rows and their keys, written out.
func keys() []struct {
	r api.Row
	b []byte
} {
	return []struct {
		r api.Row
		b []byte
	}{
		{nil, nil},
		{api.Row{null}, join(0)},
		{api.Row{no}, join(1, 0)},
		{api.Row{yes}, join(1, 1)},
		{api.Row{num(0)}, join(2, 128, 0, 0, 0, 0, 0, 0, 0)},
		{api.Row{num(1)}, join(2, 128, 0, 0, 0, 0, 0, 0, 1)},
		{api.Row{num(-1)}, join(2, 127, 255, 255, 255, 255, 255, 255, 255)},
		{api.Row{num(-256)}, join(2, 127, 255, 255, 255, 255, 255, 255, 0)},
		{api.Row{num(0x0102030405060708)}, join(2, 129, 2, 3, 4, 5, 6, 7, 8)},
		{api.Row{num(math.MinInt64)}, join(2, 0, 0, 0, 0, 0, 0, 0, 0)},
		{api.Row{num(math.MaxInt64)}, join(2, 255, 255, 255, 255, 255, 255, 255, 255)},
		{api.Row{text("")}, join(3, 0, 0)},
		{api.Row{blob("")}, join(4, 0, 0)},
		{api.Row{text("a")}, join(3, 97, 0, 0)},
		{api.Row{blob("a")}, join(4, 97, 0, 0)},
		{api.Row{text("\x00")}, join(3, 0, 255, 0, 0)},
		{api.Row{text("\x00\x00")}, join(3, 0, 255, 0, 255, 0, 0)},
		{api.Row{blob("a\x00b")}, join(4, 97, 0, 255, 98, 0, 0)},
		{api.Row{text("\xff")}, join(3, 255, 0, 0)},
		{api.Row{text("\x00\xff")}, join(3, 0, 255, 255, 0, 0)},
		{api.Row{text("\xff\x00\xff")}, join(3, 255, 0, 255, 255, 0, 0)},
		{api.Row{num(1), null}, join(2, 128, 0, 0, 0, 0, 0, 0, 1, 0)},
		{api.Row{null, null, yes, no}, join(0, 0, 1, 1, 1, 0)},
		{api.Row{text("a"), blob(""), text("\x00"), null}, join(3, 97, 0, 0, 4, 0, 0, 3, 0, 255, 0, 0, 0)},
		{often(null, 64), make([]byte, 64)},
	}
}

// P5.2: a row's key, written out.
func TestKey(t *testing.T) {
	for _, x := range keys() {
		if b, e := code.Key(x.r); !slices.Equal(b, x.b) || e != api.OK {
			t.Errorf("%v: got %v, %d, want %v", x.r, b, e, x.b)
		}
	}
	if b, e := code.Key(api.Row{}); len(b) > 0 || e != api.OK {
		t.Errorf("of an empty row: got %v, %d", b, e)
	}
}

// P5.2: value.CheckRow's error.
func TestKeyRefuses(t *testing.T) { refuses(t, code.Key) }

// R2: what is handed in stays as it is, and the answer is the caller's own.
func TestKeyIsNew(t *testing.T) { writesAnew(t, code.Key) }

// unkeys asks whether Unkey finds a row. Of so many that are asked, one that fails is enough.
func unkeys(t *testing.T, b []byte, want api.Row) {
	t.Helper()
	if r, e := code.Unkey(b); !slices.Equal(r, want) || e != api.OK {
		t.Fatalf("%s: got %s, %d, want %s", shown(b), shown(r), e, shown(want))
	}
}

// unkeysNone asks whether Unkey finds none.
func unkeysNone(t *testing.T, b []byte) {
	t.Helper()
	if r, e := code.Unkey(b); r != nil || e != api.ErrForm {
		t.Fatalf("%s: got %s, %d", shown(b), shown(r), e)
	}
}

// P5.2: the rows whose keys are written out.
func TestUnkey(t *testing.T) {
	for _, x := range keys() {
		unkeys(t, x.b, x.r)
	}
	unkeys(t, []byte{}, nil)
}

// P5.2: bytes that are no row's key.
func TestUnkeyNone(t *testing.T) {
	for c := range 256 {
		if c > 4 {
			unkeysNone(t, join(c))
			unkeysNone(t, join(c, 0, 0))
			unkeysNone(t, join(0, c, make([]byte, 8)))
		}
		if c > 1 {
			unkeysNone(t, join(1, c))
			unkeysNone(t, join(0, 1, c))
		}
		for _, kind := range []int{api.Text, api.Blob} {
			if c != 0 && c != 255 {
				unkeysNone(t, join(kind, 0, c, 0, 0))
				unkeysNone(t, join(kind, 97, 0, c, 0, 0))
				unkeysNone(t, join(kind, 0, 255, 0, c, 0, 0))
			}
			if c > 4 {
				unkeysNone(t, join(kind, 0, 0, c))
			}
			unkeysNone(t, join(kind, c))
			unkeysNone(t, join(kind, 98, c))
			unkeysNone(t, join(kind, 0, 255, c))
		}
	}
	for n := range 8 {
		unkeysNone(t, join(2, make([]byte, n)))
		unkeysNone(t, join(0, 2, make([]byte, n)))
	}
	unkeysNone(t, join(1))
	unkeysNone(t, join(3))
	unkeysNone(t, join(4))
	unkeysNone(t, make([]byte, 65))
	unkeysNone(t, make([]byte, 1000))
	unkeysNone(t, bytes.Repeat([]byte{3, 97, 0, 0}, 65))
	unkeys(t, bytes.Repeat([]byte{3, 97, 0, 0}, 64), often(text("a"), 64))
	unkeysNone(t, bytes.Repeat([]byte{3}, 1<<20))
}

// P5.2: all bytes of a few, asked against all rows that have as few.
func TestUnkeyAll(t *testing.T) {
	const most = 6
	some := []byte{0, 1, 2, 3, 4, 5, 254, 255}
	rows := map[string]api.Row{}
	values := []api.Value{null, no, yes}
	for _, s := range sequences(3, some...) {
		values = append(values, text(string(s)), blob(string(s)))
	}
	short := slices.DeleteFunc(slices.Clone(values), func(v api.Value) bool { return len(v.S) > 0 })
	all := rowsOf(short, most)
	for _, v := range values {
		for _, r := range rowsOf(short, 3) {
			for i := range len(r) + 1 {
				all = append(all, slices.Insert(slices.Clone(r), i, v))
			}
		}
	}
	for _, r := range all {
		if b := must(t, code.Key, r); len(b) <= most {
			rows[string(b)] = r
		}
	}
	for _, b := range sequences(most, some...) {
		if r, ok := rows[string(b)]; ok {
			unkeys(t, b, r)
			delete(rows, string(b))
		} else {
			unkeysNone(t, b)
		}
	}
	for b, r := range rows {
		t.Errorf("%v: its key %v was not asked for", r, []byte(b))
	}
}

// P5.4: what was written is read as what it was; what stands behind it is read as further values, or is none's key.
func TestUnkeyKeys(t *testing.T) {
	for _, r := range append(rowsOf(few(), 2), append(rowsOf(values(), 1), longRows()...)...) {
		b := must(t, code.Key, r)
		unkeys(t, b, r)
		if len(r) < 64 {
			unkeys(t, join(b, 0), append(slices.Clone(r), null))
			unkeys(t, join(b, 3, 0, 0), append(slices.Clone(r), text("")))
		} else {
			unkeysNone(t, join(b, 0))
		}
		unkeysNone(t, join(b, 5))
		unkeysNone(t, join(b, 2, 0))
		unkeysNone(t, join(b, 3, 0))
	}
}

// P5.2: a key that is cut within a value is none's.
func TestUnkeyCut(t *testing.T) {
	for _, r := range rowsOf(few(), 2) {
		whole := map[int]bool{}
		for n := range len(r) + 1 {
			whole[len(must(t, code.Key, r[:n]))] = true
		}
		b := must(t, code.Key, r)
		for k := range b {
			if !whole[k] {
				unkeysNone(t, b[:k])
			}
		}
	}
}

// P5.2, R1: of whatever bytes: the row whose key they are, or ErrForm.
func TestUnkeyNoise(t *testing.T) {
	found := 0
	for seed := range uint32(100000) {
		b := noise(int(seed%23), seed)
		was := slices.Clone(b)
		r, e := code.Unkey(b)
		if e != api.OK {
			unkeysNone(t, b)
			continue
		}
		found++
		if got := must(t, code.Key, r); !slices.Equal(got, b) {
			t.Fatalf("%v: got %v, whose key is %v", b, r, got)
		}
		if !slices.Equal(b, was) {
			t.Fatal("what was handed in was changed")
		}
	}
	if found < 1000 {
		t.Errorf("only %d rows found", found)
	}
}

// R2: what is written into the key behind the call changes no row that was read from it; rows share nothing.
func TestUnkeyIsNew(t *testing.T) {
	want := api.Row{text("abc"), blob("\x00d"), num(5)}
	b := must(t, code.Key, want)
	was := slices.Clone(b)
	r, _ := code.Unkey(b)
	other, _ := code.Unkey(b)
	for i := range other {
		other[i] = null
	}
	if !slices.Equal(b, was) {
		t.Error("what was handed in was changed")
	}
	for i := range b {
		b[i] = 1
	}
	if !slices.Equal(r, want) {
		t.Errorf("got %v", r)
	}
}

// inOrder asks of all pairs of rows whether their keys stand as the rows do.
func inOrder(t *testing.T, rows []api.Row) {
	t.Helper()
	keys := make([][]byte, len(rows))
	for i, r := range rows {
		keys[i] = must(t, code.Key, r)
	}
	for i, a := range rows {
		for k, b := range rows {
			if got, want := bytes.Compare(keys[i], keys[k]), value.CompareRows(a, b); got != want {
				t.Fatalf("%s, %s: got %d, want %d", shown(a), shown(b), got, want)
			}
		}
	}
}

// P5.4: keys are ordered as their rows are, and each row has another one.
func TestKeyOrder(t *testing.T) {
	inOrder(t, rowsOf(few(), 2))
	inOrder(t, rowsOf(values(), 1))
	inOrder(t, rowsOf([]api.Value{null, yes, num(-1), text(""), text("\x00"), blob("\x00\xff")}, 4))
	inOrder(t, longRows()[:14])
}

// P5.4: the keys of values, which rise, rise.
func TestKeyRises(t *testing.T) {
	var last []byte
	for _, v := range values() {
		b := must(t, code.Key, api.Row{v})
		if bytes.Compare(last, b) >= 0 {
			t.Errorf("%v: %v is not behind %v", v, b, last)
		}
		last = b
	}
}
