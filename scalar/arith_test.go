package scalar_test

import (
	"math"
	"math/big"
	"testing"

	"boscage/api"
	"boscage/scalar"
)

func ops() []string { return []string{"+", "-", "*", "/", "%"} }

func arith(t *testing.T, op string, a, b, want api.Value, f api.Errno) {
	t.Helper()
	got, e := scalar.Arith(op, a, b)
	is(t, op, []api.Value{a, b}, got, e, want, f)
}

// reckoned is what comes of two numbers, with room for any number.
func reckoned(op string, a, b int64) (api.Value, api.Errno) {
	if b == 0 && (op == "/" || op == "%") {
		return null, api.ErrZero
	}
	x, y, z := big.NewInt(a), big.NewInt(b), new(big.Int)
	switch op {
	case "+":
		z.Add(x, y)
	case "-":
		z.Sub(x, y)
	case "*":
		z.Mul(x, y)
	case "/":
		z.Quo(x, y)
	case "%":
		z.Rem(x, y)
	}
	if !z.IsInt64() {
		return null, api.ErrOver
	}
	return num(z.Int64()), api.OK
}

// P3.1: written out.
func TestArith(t *testing.T) {
	const least, most = math.MinInt64, math.MaxInt64
	for _, x := range []struct {
		op         string
		a, b, want int64
		e          api.Errno
	}{
		{"+", 2, 3, 5, api.OK},
		{"+", most, 1, 0, api.ErrOver},
		{"+", most, 0, most, api.OK},
		{"+", least, most, -1, api.OK},
		{"+", least, -1, 0, api.ErrOver},
		{"+", least, least, 0, api.ErrOver},
		{"-", 2, 3, -1, api.OK},
		{"-", 0, least, 0, api.ErrOver},
		{"-", -1, least, most, api.OK},
		{"-", most, -1, 0, api.ErrOver},
		{"-", least, 0, least, api.OK},
		{"-", least, 1, 0, api.ErrOver},
		{"*", -2, 3, -6, api.OK},
		{"*", 0, least, 0, api.OK},
		{"*", least, 0, 0, api.OK},
		{"*", least, 1, least, api.OK},
		{"*", least, -1, 0, api.ErrOver},
		{"*", -1, least, 0, api.ErrOver},
		{"*", -1, most, least + 1, api.OK},
		{"*", 1 << 32, 1 << 32, 0, api.ErrOver},
		{"*", 1 << 62, 2, 0, api.ErrOver},
		{"*", 1 << 62, -2, least, api.OK},
		{"/", 7, 2, 3, api.OK},
		{"/", -7, 2, -3, api.OK},
		{"/", 7, -2, -3, api.OK},
		{"/", -7, -2, 3, api.OK},
		{"/", 1, 2, 0, api.OK},
		{"/", least, -1, 0, api.ErrOver},
		{"/", least, 1, least, api.OK},
		{"/", least, 0, 0, api.ErrZero},
		{"/", 0, 0, 0, api.ErrZero},
		{"%", 7, 2, 1, api.OK},
		{"%", -7, 2, -1, api.OK},
		{"%", 7, -2, 1, api.OK},
		{"%", -7, -2, -1, api.OK},
		{"%", -6, 2, 0, api.OK},
		{"%", least, -1, 0, api.OK},
		{"%", 5, 0, 0, api.ErrZero},
	} {
		want := num(x.want)
		if x.e != api.OK {
			want = null
		}
		arith(t, x.op, num(x.a), num(x.b), want, x.e)
	}
}

// P3.1: all pairs of numbers at which something turns.
func TestArithAll(t *testing.T) {
	for _, op := range ops() {
		for _, a := range numbers() {
			for _, b := range numbers() {
				want, e := reckoned(op, a, b)
				arith(t, op, num(a), num(b), want, e)
			}
		}
	}
}

// P3.1: NULL makes NULL, also by zero; what is neither makes ErrType, also beside NULL.
func TestArithKinds(t *testing.T) {
	for _, op := range ops() {
		for _, l := range listsOf(some(), 2) {
			a, b := l[0], l[1]
			switch {
			case a.Kind != api.Null && a.Kind != api.Int || b.Kind != api.Null && b.Kind != api.Int:
				arith(t, op, a, b, null, api.ErrType)
			case a == null || b == null:
				arith(t, op, a, b, null, api.OK)
			}
		}
	}
}

// P3.1: what is none of the five is ErrArg, whatever the values are.
func TestArithWrongOp(t *testing.T) {
	for _, op := range []string{"", "++", "+ ", " +", "+-", "+-*/%", "-*", "||", "^", "//", "=", "\x00", "+\x00", "−", "×", "add", "abs"} {
		for _, l := range listsOf(append(some(), wrongs()...), 2) {
			arith(t, op, l[0], l[1], null, api.ErrArg)
		}
	}
}

// Words: a value that may not be is ErrArg on either side, ahead of ErrType, NULL and ErrZero.
func TestArithWrongValue(t *testing.T) {
	for _, op := range ops() {
		for _, v := range wrongs() {
			for _, other := range append(some(), wrongs()...) {
				arith(t, op, v, other, null, api.ErrArg)
				arith(t, op, other, v, null, api.ErrArg)
			}
		}
	}
}

// P3.1: Neg.
func TestNeg(t *testing.T) {
	for _, x := range []struct {
		v, want api.Value
		e       api.Errno
	}{
		{num(0), num(0), api.OK},
		{num(5), num(-5), api.OK},
		{num(-5), num(5), api.OK},
		{num(math.MaxInt64), num(math.MinInt64 + 1), api.OK},
		{num(math.MinInt64 + 1), num(math.MaxInt64), api.OK},
		{num(math.MinInt64), null, api.ErrOver},
		{null, null, api.OK},
		{yes, null, api.ErrType},
		{text("1"), null, api.ErrType},
		{blob(""), null, api.ErrType},
	} {
		got, e := scalar.Neg(x.v)
		is(t, "Neg", []api.Value{x.v}, got, e, x.want, x.e)
	}
	for _, v := range wrongs() {
		got, e := scalar.Neg(v)
		is(t, "Neg", []api.Value{v}, got, e, null, api.ErrArg)
	}
}

// P3.2: all pairs of values of all Kinds.
func TestJoin(t *testing.T) {
	l := some()
	for _, s := range contents() {
		l = append(l, text(s), blob(s))
	}
	for _, x := range listsOf(l, 2) {
		a, b := x[0], x[1]
		want, f := null, api.OK
		switch {
		case a.Kind == api.Bool || a.Kind == api.Int || b.Kind == api.Bool || b.Kind == api.Int:
			f = api.ErrType
		case a == null || b == null:
		case a.Kind != b.Kind:
			f = api.ErrType
		default:
			want = api.Value{Kind: a.Kind, S: a.S + b.S}
		}
		got, e := scalar.Join(a, b)
		is(t, "Join", x, got, e, want, f)
	}
}

// P3.2: written out, the order of errors as well.
func TestJoinWritten(t *testing.T) {
	for _, x := range []struct {
		a, b, want api.Value
		e          api.Errno
	}{
		{text("a"), text("b"), text("ab"), api.OK},
		{text("a"), text(""), text("a"), api.OK},
		{text(""), text(""), text(""), api.OK},
		{blob("\xff"), blob("\x00"), blob("\xff\x00"), api.OK},
		{text("a"), blob("b"), null, api.ErrType},
		{blob(""), text(""), null, api.ErrType},
		{null, text("a"), null, api.OK},
		{blob("a"), null, null, api.OK},
		{null, null, null, api.OK},
		{null, num(1), null, api.ErrType},
		{no, null, null, api.ErrType},
		{num(1), num(2), null, api.ErrType},
	} {
		got, e := scalar.Join(x.a, x.b)
		is(t, "Join", []api.Value{x.a, x.b}, got, e, x.want, x.e)
	}
}

// Words: a value that may not be is ErrArg on either side, ahead of ErrType and NULL.
func TestJoinWrongValue(t *testing.T) {
	for _, v := range wrongs() {
		for _, other := range append(some(), wrongs()...) {
			for _, l := range [][]api.Value{{v, other}, {other, v}} {
				got, e := scalar.Join(l[0], l[1])
				is(t, "Join", l, got, e, null, api.ErrArg)
			}
		}
	}
}

// P3.4: sums and products do not hang on the order, nor do their errors.
func TestAnyOrder(t *testing.T) {
	l := append(some(), wrongs()...)
	for _, n := range numbers() {
		l = append(l, num(n))
	}
	for _, op := range []string{"+", "*"} {
		for _, x := range listsOf(l, 2) {
			want, e := scalar.Arith(op, x[0], x[1])
			arith(t, op, x[1], x[0], want, e)
		}
	}
}

// P3.4: a number is its / with its %, which is of its sign, and less than what it is divided by.
func TestQuotientAndRest(t *testing.T) {
	for _, a := range numbers() {
		for _, b := range numbers() {
			quotient, e := scalar.Arith("/", num(a), num(b))
			if e != api.OK {
				continue
			}
			rest, e := scalar.Arith("%", num(a), num(b))
			if e != api.OK || rest.I != 0 && (rest.I < 0) != (a < 0) {
				t.Errorf("%d %% %d: got %v, %d", a, b, rest, e)
			}
			product, _ := scalar.Arith("*", quotient, num(b))
			arith(t, "+", product, rest, num(a), api.OK)
			if big.NewInt(rest.I).CmpAbs(big.NewInt(b)) >= 0 {
				t.Errorf("%d %% %d: got %d", a, b, rest.I)
			}
		}
	}
}

// P3.4: what was joined has both lengths together.
func TestJoinedLength(t *testing.T) {
	for _, make := range []func(string) api.Value{text, blob} {
		for _, a := range contents() {
			for _, b := range contents() {
				joined, e := scalar.Join(make(a), make(b))
				if e != api.OK {
					t.Fatalf("%q, %q: %d", a, b, e)
				}
				calls(t, "length", []api.Value{joined}, num(int64(len(a)+len(b))), api.OK)
			}
		}
	}
}
