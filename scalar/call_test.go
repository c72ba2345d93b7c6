package scalar_test

import (
	"math"
	"testing"

	"boscage/api"
	"boscage/scalar"
)

// told is a function as the chapter tells it: how many arguments, and, where NULL makes NULL, of which Kinds (t a Text, i an Int, s a Text or a Blob).
type told struct {
	name        string
	least, most int
	kinds       string
}

func functions() []told {
	return []told{
		{"coalesce", 1, -1, ""}, {"nullif", 2, 2, ""},
		{"abs", 1, 1, "i"}, {"sign", 1, 1, "i"}, {"length", 1, 1, "s"},
		{"lower", 1, 1, "t"}, {"upper", 1, 1, "t"}, {"trim", 1, 1, "t"},
		{"substr", 3, 3, "sii"}, {"instr", 2, 2, "tt"}, {"replace", 3, 3, "ttt"},
	}
}

func fits(kind byte, v api.Value) bool {
	switch kind {
	case 'i':
		return v.Kind == api.Int
	case 't':
		return v.Kind == api.Text
	}
	return v.Kind == api.Text || v.Kind == api.Blob
}

// right are arguments of a function that it has an answer for.
func (f told) right() []api.Value {
	if f.kinds == "" {
		return []api.Value{num(1), num(2)}[:f.least]
	}
	var l []api.Value
	for i := range len(f.kinds) {
		if f.kinds[i] == 'i' {
			l = append(l, num(1))
		} else {
			l = append(l, text("a"))
		}
	}
	return l
}

func strangers() []string {
	return []string{"", " ", "ABS", "Abs", "aBs", "LENGTH", "Coalesce", "abs ", " abs", "abs\x00", "ab", "absa", "count", "sum", "min", "max", "concat", "mod", "ltrim", "substring", "ifnull", "+", "null", "äbs"}
}

// P3.3: Arity.
func TestArity(t *testing.T) {
	for _, f := range functions() {
		if least, most, known := scalar.Arity(f.name); least != f.least || most != f.most || !known {
			t.Errorf("%s: got %d, %d, %t", f.name, least, most, known)
		}
	}
	for _, name := range strangers() {
		if least, most, known := scalar.Arity(name); least != 0 || most != 0 || known {
			t.Errorf("%q: got %d, %d, %t", name, least, most, known)
		}
	}
}

// P3.3: a function that is none is ErrArg, whatever it is called with.
func TestCallNone(t *testing.T) {
	for _, name := range strangers() {
		calls(t, name, nil, null, api.ErrArg)
		for n := 1; n <= 3; n++ {
			for _, v := range append(some(), wrongs()...) {
				l := make([]api.Value, n)
				for i := range l {
					l[i] = v
				}
				calls(t, name, l, null, api.ErrArg)
			}
		}
	}
}

// P3.3: too few and too many arguments are ErrArg, ahead of NULL and of ErrType.
func TestCallTooFewTooMany(t *testing.T) {
	for _, f := range functions() {
		for n := range 8 {
			if n >= f.least && (n <= f.most || f.most < 0) {
				continue
			}
			for _, v := range some() {
				l := make([]api.Value, n)
				for i := range l {
					l[i] = v
				}
				calls(t, f.name, l, null, api.ErrArg)
			}
		}
		right := f.right()
		calls(t, f.name, right[1:], null, api.ErrArg)
		if f.most > 0 {
			calls(t, f.name, append(right, null), null, api.ErrArg)
		}
	}
}

// Words: a value that may not be is ErrArg at any place, ahead of ErrType, of NULL, and of one that would do.
func TestCallWrongValue(t *testing.T) {
	for _, f := range functions() {
		for _, v := range wrongs() {
			for at := range f.least {
				l := f.right()
				l[at] = v
				calls(t, f.name, l, null, api.ErrArg)
				for _, other := range some() {
					for i := range l {
						if i != at {
							l[i] = other
						}
					}
					calls(t, f.name, l, null, api.ErrArg)
				}
			}
		}
	}
	for _, v := range wrongs() {
		calls(t, "coalesce", []api.Value{num(1), null, v}, null, api.ErrArg)
		calls(t, "coalesce", []api.Value{null, v, num(1)}, null, api.ErrArg)
	}
}

// P3.3: an argument of another Kind is ErrType at any place, ahead of NULL; NULL makes NULL; elsewhere something comes that is neither.
func TestCallKinds(t *testing.T) {
	for _, f := range functions() {
		if f.kinds == "" {
			continue
		}
		for _, l := range listsOf(some(), len(f.kinds)) {
			other, empty := false, false
			for i, v := range l {
				other = other || v != null && !fits(f.kinds[i], v)
				empty = empty || v == null
			}
			switch got, e := scalar.Call(f.name, l...); {
			case other:
				is(t, f.name, l, got, e, null, api.ErrType)
			case empty:
				is(t, f.name, l, got, e, null, api.OK)
			case e == api.ErrType || e == api.OK && got == null:
				t.Errorf("%s of %s: got %s, %d", f.name, shown(l...), shown(got), e)
			}
		}
	}
}

// P3.3: coalesce.
func TestCoalesce(t *testing.T) {
	for n := 1; n <= 3; n++ {
		for _, l := range listsOf(some(), n) {
			want := null
			for i := len(l) - 1; i >= 0; i-- {
				if l[i] != null {
					want = l[i]
				}
			}
			calls(t, "coalesce", l, want, api.OK)
		}
	}
	l := make([]api.Value, 1000)
	calls(t, "coalesce", l, null, api.OK)
	l[999] = blob("")
	calls(t, "coalesce", l, blob(""), api.OK)
	l[500] = no
	calls(t, "coalesce", l, no, api.OK)
}

// P3.3: nullif, also of two of different Kinds, and of NULLs.
func TestNullif(t *testing.T) {
	for _, l := range listsOf(some(), 2) {
		want := l[0]
		if l[0] == l[1] {
			want = null
		}
		calls(t, "nullif", l, want, api.OK)
	}
}

// P3.3: abs and sign.
func TestAbsSign(t *testing.T) {
	for _, x := range []struct{ n, abs, sign int64 }{
		{0, 0, 0}, {1, 1, 1}, {-1, 1, -1}, {7, 7, 1}, {-7, 7, -1}, {1 << 32, 1 << 32, 1}, {-1 << 32, 1 << 32, -1},
		{math.MaxInt64, math.MaxInt64, 1}, {-math.MaxInt64, math.MaxInt64, -1},
	} {
		calls(t, "abs", []api.Value{num(x.n)}, num(x.abs), api.OK)
		calls(t, "sign", []api.Value{num(x.n)}, num(x.sign), api.OK)
	}
	calls(t, "abs", []api.Value{num(math.MinInt64)}, null, api.ErrOver)
	calls(t, "sign", []api.Value{num(math.MinInt64)}, num(-1), api.OK)
}

// R2: what is handed in stays as it is, also what lies behind it in the same memory.
func TestHandedInStays(t *testing.T) {
	for _, f := range functions() {
		for n := range 4 {
			for _, l := range listsOf([]api.Value{null, num(2), text("aXa"), text("a"), blob("a"), {Kind: 9}}, n) {
				room := append(append([]api.Value{}, l...), num(7), num(8))
				was := append([]api.Value{}, room...)
				scalar.Call(f.name, room[:n]...)
				for i := range was {
					if room[i] != was[i] {
						t.Fatalf("%s of %v: changed to %v", f.name, was, room)
					}
				}
			}
		}
	}
}

// R5: nothing hangs on what was asked ahead.
func TestNothingKept(t *testing.T) {
	for range 3 {
		for _, f := range functions() {
			want, e := scalar.Call(f.name, f.right()...)
			scalar.Call("none", f.right()...)
			scalar.Call(f.name)
			scalar.Arity("none")
			calls(t, f.name, f.right(), want, e)
		}
	}
}
