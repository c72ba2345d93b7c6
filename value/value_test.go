package value_test

import (
	"testing"

	"boscage/api"
	"boscage/value"
)

// P1.1: what may be, and what may not.
func TestCheck(t *testing.T) {
	for _, v := range values() {
		if e := value.Check(v); e != api.OK {
			t.Errorf("%v: got %d, want 0", v, e)
		}
	}
	for _, v := range wrongs() {
		if e := value.Check(v); e != api.ErrArg {
			t.Errorf("%v: got %d, want ErrArg", v, e)
		}
	}
}

// P1.1: rows that may be, up to 64 values.
func TestCheckRow(t *testing.T) {
	for _, n := range []int{0, 1, 2, 63, 64, 65, 66, 128, 1000} {
		want := api.OK
		if n > 64 {
			want = api.ErrLong
		}
		if e := value.CheckRow(make(api.Row, n)); e != want {
			t.Errorf("%d values: got %d, want %d", n, e, want)
		}
	}
	if e := value.CheckRow(nil); e != api.OK {
		t.Errorf("nil: got %d", e)
	}
	if e := value.CheckRow(values()[:64]); e != api.OK {
		t.Errorf("values of all kinds: got %d", e)
	}
}

// P1.1: one wrong value is ErrArg wherever it stands, and ErrArg goes ahead of ErrLong.
func TestCheckRowWrong(t *testing.T) {
	for _, n := range []int{1, 2, 64, 65, 100} {
		for at := range n {
			for _, v := range wrongs() {
				r := make(api.Row, n)
				r[at] = v
				if e := value.CheckRow(r); e != api.ErrArg {
					t.Fatalf("%v at %d of %d: got %d, want ErrArg", v, at, n, e)
				}
			}
		}
	}
}

// P1.1: all parts, also of values that may not be.
func TestSame(t *testing.T) {
	l := append(values(), wrongs()...)
	for i, a := range l {
		for k, b := range l {
			if got := value.Same(a, b); got != (i == k) {
				t.Errorf("%v, %v: got %t", a, b, got)
			}
		}
	}
}

// order is the chapter's order of values, written out.
func order(a, b api.Value) int {
	switch {
	case a.Kind != b.Kind:
		return sign(a.Kind < b.Kind)
	case a.I != b.I:
		return sign(a.I < b.I)
	case a.S != b.S:
		return sign(ahead(a.S, b.S))
	}
	return 0
}

func sign(less bool) int {
	if less {
		return -1
	}
	return 1
}

func ahead(a, b string) bool {
	for i := 0; i < len(a) && i < len(b); i++ {
		if a[i] != b[i] {
			return a[i] < b[i]
		}
	}
	return len(a) < len(b)
}

// P1.1: the order of values, also of those that may not be (by Kind, then by I, then by S).
func TestCompare(t *testing.T) {
	l := append(values(), wrongs()...)
	for _, a := range l {
		for _, b := range l {
			if got, want := value.Compare(a, b), order(a, b); got != want {
				t.Errorf("%v, %v: got %d, want %d", a, b, got, want)
			}
		}
	}
}

// P1.1: the chapter's example.
func TestCompareExample(t *testing.T) {
	l := []api.Value{null, yes, num(-5), text("a"), blob("\x00")}
	for i := 1; i < len(l); i++ {
		if value.Compare(l[i-1], l[i]) != -1 || value.Compare(l[i], l[i-1]) != 1 {
			t.Errorf("%v does not stand ahead of %v", l[i-1], l[i])
		}
	}
}

// P1.1: rows value by value; what another one begins with ahead of that.
func TestCompareRows(t *testing.T) {
	l := []api.Row{nil, {null}, {null, null}, {null, num(0)}, {no}, {no, blob("z")}, {num(-1), num(9)}, {num(1)}, {num(1), null}, {num(1), null, null}, {num(1), num(2)}, {num(1), num(2), num(0)}, {num(1), num(3)}, {num(2)}, {num(2), num(1)}, {text("")}, {text("a")}, {text("a"), text("b")}, {text("a"), text("b"), text("c")}, {text("ab")}, {blob("")}}
	for i, a := range l {
		for k, b := range l {
			want := 0
			if i != k {
				want = sign(i < k)
			}
			if got := value.CompareRows(a, b); got != want {
				t.Errorf("%v, %v: got %d, want %d", a, b, got, want)
			}
		}
	}
	if value.CompareRows(nil, api.Row{}) != 0 || value.CompareRows(api.Row{}, nil) != 0 {
		t.Error("nil and empty")
	}
}

// P1.1: rows of values that may not be, and rows that are too long, have a place too.
func TestCompareRowsWrong(t *testing.T) {
	if value.CompareRows(api.Row{wrong}, api.Row{wrong, null}) != -1 || value.CompareRows(api.Row{{Kind: 9}}, api.Row{{Kind: 8, I: 5, S: "x"}}) != 1 {
		t.Error("values that may not be")
	}
	a, b := make(api.Row, 100), make(api.Row, 100)
	if value.CompareRows(a, b) != 0 {
		t.Error("long rows")
	}
	b[99] = num(0)
	if value.CompareRows(a, b) != -1 || value.CompareRows(b, a) != 1 || value.CompareRows(b, a[:99]) != 1 {
		t.Error("long rows, at the end")
	}
}

// oneOrder fails, if the order of l, in which no two are the same, is none: told apart just where they are two, turned round, and handed on.
func oneOrder[T any](t *testing.T, l []T, compare func(a, b T) int) {
	t.Helper()
	for i, a := range l {
		for k, b := range l {
			ab := compare(a, b)
			if ab != -compare(b, a) || (ab == 0) != (i == k) {
				t.Fatalf("%v, %v: got %d", a, b, ab)
			}
			if ab > 0 {
				continue
			}
			for _, c := range l {
				if compare(b, c) <= 0 && compare(a, c) > 0 {
					t.Fatalf("%v, %v, %v", a, b, c)
				}
			}
		}
	}
}

// P1.4: the order of values is one, and so is that of rows.
func TestOneOrder(t *testing.T) {
	oneOrder(t, append(values(), wrongs()...), value.Compare)
	oneOrder(t, rowsOf([]api.Value{null, yes, num(-1), num(1), text("a"), wrong}, 2), value.CompareRows)
}
