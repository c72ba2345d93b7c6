package eval_test

import (
	"math/rand"
	"slices"
	"strings"
	"testing"

	"boscage/api"
	"boscage/eval"
	"boscage/expr"
	"boscage/like"
	"boscage/logic"
	"boscage/scalar"
)

// reckons asks for an expression's value with its parts as lits, and as places of a row.
func reckons(t *testing.T, e api.Expr, l []api.Value, want api.Value, err api.Errno) {
	t.Helper()
	e.L = lits(l...)
	evals(t, e, nil, want, err)
	e.L = ats(len(l))
	evals(t, e, l, want, err)
}

// P10.2: a lit's value, and a row's.
func TestEvalOwn(t *testing.T) {
	for _, v := range some() {
		evals(t, lit(v), nil, v, api.OK)
		evals(t, lit(v), api.Row{num(3)}, v, api.OK)
		for place := range int64(4) {
			r := api.Row{num(90), text("x"), null(), no()}
			r[place] = v
			evals(t, at(place), r, v, api.OK)
		}
	}
	var long api.Row
	for i := range int64(1000) {
		long = append(long, num(i*i))
	}
	for i := range int64(1000) {
		evals(t, at(i), long, num(i*i), api.OK)
	}
}

// P10.2: what has one part.
func TestEvalOnes(t *testing.T) {
	for _, v := range some() {
		want, err := scalar.Neg(v)
		reckons(t, op("neg"), []api.Value{v}, want, err)
		want, err = logic.Not(v)
		reckons(t, op("not"), []api.Value{v}, want, err)
		is, not := no(), yes()
		if v == null() {
			is, not = not, is
		}
		reckons(t, op("isnull"), []api.Value{v}, is, api.OK)
		reckons(t, op("notnull"), []api.Value{v}, not, api.OK)
	}
}

// P10.2: what has two parts.
func TestEvalTwos(t *testing.T) {
	for _, a := range some() {
		for _, b := range some() {
			l := []api.Value{a, b}
			for _, o := range arithOps() {
				want, err := scalar.Arith(o, a, b)
				reckons(t, op(o), l, want, err)
			}
			for _, o := range relOps() {
				want, err := logic.Rel(o, a, b)
				reckons(t, op(o), l, want, err)
			}
			want, err := scalar.Join(a, b)
			reckons(t, op("||"), l, want, err)
			want, err = logic.And(a, b)
			reckons(t, op("and"), l, want, err)
			want, err = logic.Or(a, b)
			reckons(t, op("or"), l, want, err)
			reckonsLike(t, a, b)
		}
	}
}

func reckonsLike(t *testing.T, a, b api.Value) {
	t.Helper()
	want, err := null(), api.OK
	switch {
	case a == null() || b == null():
	case a.Kind != api.Text || b.Kind != api.Text:
		err = api.ErrType
	default:
		var is bool
		if is, err = like.Like(a.S, b.S); err == api.OK {
			want = no()
		}
		if is {
			want = yes()
		}
	}
	reckons(t, op("like"), []api.Value{a, b}, want, err)
}

// P10.2: between, in and calls.
func TestEvalMore(t *testing.T) {
	for _, a := range some() {
		for _, b := range some() {
			for _, c := range some() {
				l := []api.Value{a, b, c}
				want, err := logic.In(a, b, c)
				reckons(t, op("in"), l, want, err)
				below, err := logic.Rel(">=", a, b)
				above, other := logic.Rel("<=", a, c)
				if err == api.OK {
					err = other
				}
				want = null()
				if err == api.OK {
					want, _ = logic.And(below, above)
				}
				reckons(t, op("between"), l, want, err)
				for _, name := range []string{"coalesce", "substr", "replace", "nullif", "abs", "none"} {
					for many := range 4 {
						want, err = scalar.Call(name, l[:many]...)
						reckons(t, call(name), l[:many], want, err)
					}
				}
			}
			want, err := logic.In(a, b)
			reckons(t, op("in"), []api.Value{a, b}, want, err)
		}
	}
	var many []api.Value
	for i := range int64(1000) {
		many = append(many, num(i))
	}
	reckons(t, op("in"), append([]api.Value{num(999)}, many...), yes(), api.OK)
	reckons(t, op("in"), append([]api.Value{num(1000)}, many...), no(), api.OK)
	reckons(t, call("coalesce"), append(make([]api.Value, 1000), many...), num(0), api.OK)
}

// P10.2: written out.
func TestEvalWritten(t *testing.T) {
	for _, x := range []struct {
		e    api.Expr
		l    []api.Value
		want api.Value
		err  api.Errno
	}{
		{op("neg"), []api.Value{num(5)}, num(-5), api.OK},
		{op("neg"), []api.Value{num(least)}, null(), api.ErrOver},
		{op("-"), []api.Value{num(5), num(7)}, num(-2), api.OK},
		{op("/"), []api.Value{num(7), num(2)}, num(3), api.OK},
		{op("%"), []api.Value{num(7), num(2)}, num(1), api.OK},
		{op("%"), []api.Value{num(7), num(0)}, null(), api.ErrZero},
		{op("||"), []api.Value{text("a"), text("b")}, text("ab"), api.OK},
		{op("||"), []api.Value{blob("a"), blob("b")}, blob("ab"), api.OK},
		{op("||"), []api.Value{text("a"), blob("b")}, null(), api.ErrType},
		{op("<"), []api.Value{num(1), num(2)}, yes(), api.OK},
		{op(">"), []api.Value{num(1), num(2)}, no(), api.OK},
		{op("<="), []api.Value{text("b"), text("ab")}, no(), api.OK},
		{op("="), []api.Value{null(), null()}, null(), api.OK},
		{op("<>"), []api.Value{num(1), text("1")}, null(), api.ErrType},
		{op("and"), []api.Value{no(), null()}, no(), api.OK},
		{op("and"), []api.Value{no(), num(1)}, null(), api.ErrType},
		{op("or"), []api.Value{yes(), null()}, yes(), api.OK},
		{op("or"), []api.Value{null(), no()}, null(), api.OK},
		{op("not"), []api.Value{yes()}, no(), api.OK},
		{op("isnull"), []api.Value{no()}, no(), api.OK},
		{op("notnull"), []api.Value{text("")}, yes(), api.OK},
		{op("in"), []api.Value{num(1), num(2), null()}, null(), api.OK},
		{op("in"), []api.Value{num(2), null(), num(2)}, yes(), api.OK},
		{op("in"), []api.Value{num(2), num(2), text("a")}, null(), api.ErrType},
		{op("in"), []api.Value{num(2), num(1), num(3)}, no(), api.OK},
		{op("between"), []api.Value{num(2), num(1), num(3)}, yes(), api.OK},
		{op("between"), []api.Value{num(1), num(1), num(1)}, yes(), api.OK},
		{op("between"), []api.Value{num(2), num(3), num(1)}, no(), api.OK},
		{op("between"), []api.Value{num(0), num(1), null()}, no(), api.OK},
		{op("between"), []api.Value{num(2), num(1), null()}, null(), api.OK},
		{op("between"), []api.Value{num(4), null(), num(3)}, no(), api.OK},
		{op("between"), []api.Value{null(), num(1), text("a")}, null(), api.OK},
		{op("between"), []api.Value{num(0), num(1), text("a")}, null(), api.ErrType},
		{op("between"), []api.Value{num(0), null(), text("a")}, null(), api.ErrType},
		{op("between"), []api.Value{num(0), text("a"), num(1)}, null(), api.ErrType},
		{op("like"), []api.Value{text("abc"), text("a%")}, yes(), api.OK},
		{op("like"), []api.Value{text("abc"), text("_")}, no(), api.OK},
		{op("like"), []api.Value{text("a%"), text("abc")}, no(), api.OK},
		{op("like"), []api.Value{text("a"), text("\\")}, null(), api.ErrLike},
		{op("like"), []api.Value{null(), text("\\")}, null(), api.OK},
		{op("like"), []api.Value{null(), num(1)}, null(), api.OK},
		{op("like"), []api.Value{num(1), null()}, null(), api.OK},
		{op("like"), []api.Value{num(1), text("\\")}, null(), api.ErrType},
		{op("like"), []api.Value{text("a"), blob("a")}, null(), api.ErrType},
		{op("like"), []api.Value{blob("a"), text("a")}, null(), api.ErrType},
		{call("length"), []api.Value{text("abc")}, num(3), api.OK},
		{call("coalesce"), []api.Value{null(), num(2), num(3)}, num(2), api.OK},
		{call("substr"), []api.Value{text("abcd"), num(2), num(2)}, text("bc"), api.OK},
		{call("none"), []api.Value{num(1)}, null(), api.ErrArg},
		{call("abs"), []api.Value{text("a")}, null(), api.ErrType},
		{call("abs"), nil, null(), api.ErrArg},
	} {
		reckons(t, x.e, x.l, x.want, x.err)
	}
}

// P10.2: the parts' values first, from the left: none decides ahead of the others' errors.
func TestEvalOrder(t *testing.T) {
	over, wrong := op("neg", lit(num(least))), op("not", lit(num(1)))
	for _, v := range some() {
		for _, o := range append(twosOps(), "in", "call") {
			e := api.Expr{Op: o, L: []api.Expr{lit(v), fails()}}
			if o == "call" {
				e.Name = "coalesce"
			}
			evals(t, e, nil, null(), api.ErrZero)
			e.L = []api.Expr{fails(), lit(v)}
			evals(t, e, nil, null(), api.ErrZero)
			e.L = []api.Expr{wrong, fails()}
			evals(t, e, nil, null(), api.ErrType)
			e.L = []api.Expr{fails(), wrong}
			evals(t, e, nil, null(), api.ErrZero)
		}
		for _, o := range onesOps() {
			evals(t, op(o, fails()), nil, null(), api.ErrZero)
		}
		evals(t, op("between", lit(v), over, fails()), nil, null(), api.ErrOver)
		evals(t, op("between", lit(v), lit(num(1)), fails()), nil, null(), api.ErrZero)
		evals(t, op("between", lit(text("a")), lit(num(1)), fails()), nil, null(), api.ErrZero)
		evals(t, op("in", lit(v), lit(v), wrong, over), nil, null(), api.ErrType)
		evals(t, call("none", lit(v), over, fails()), nil, null(), api.ErrOver)
		evals(t, call("abs", lit(v), fails()), nil, null(), api.ErrZero)
	}
	evals(t, op("=", fails(), lit(null())), nil, null(), api.ErrZero)
	evals(t, op("+", op("*", over, fails()), wrong), nil, null(), api.ErrOver)
	evals(t, op("+", op("isnull", at(1)), op("/", at(0), at(0))), api.Row{num(0), null()}, null(), api.ErrZero)
}

// parted is Eval of a whole by Eval of its parts, put as lits.
func parted(e api.Expr, r api.Row) (api.Value, api.Errno) {
	e.L = slices.Clone(e.L)
	for i, part := range e.L {
		v, err := parted(part, r)
		if err != api.OK {
			return api.Value{}, err
		}
		e.L[i] = lit(v)
	}
	return eval.Eval(e, r)
}

// P10.2: at random, with and without errors.
func TestEvalAny(t *testing.T) {
	m := newMaker(3)
	good, bad := 0, 0
	for _, e := range m.anyOf(20000, 7) {
		for range 3 {
			r := m.row()
			want, err := parted(e, r)
			if err == api.OK {
				good++
			} else {
				bad++
			}
			evals(t, e, r, want, err)
		}
	}
	if good < 10000 || bad < 10000 {
		t.Errorf("only %d and %d", good, bad)
	}
}

// P10.2: expressions as they are written, of the row (2, NULL, 'abc', TRUE, x'61').
func TestEvalParsed(t *testing.T) {
	for s, want := range map[string]string{
		"a + 2 * 3": "8", "(a + 2) * 3": "12", "-(a) - -(a)": "0", "7 % 4 / a": "1", "a - 1 - 1": "0", "a < 3 and not a < 2": "TRUE", "b is null and c is not null": "TRUE",
		"a = 2 or b = 1": "TRUE", "b = 1 or a = 3": "NULL", "not b = 1": "NULL", "d and d": "TRUE", "d = (a = 2)": "TRUE", "c || 'd' || c": "'abcdabc'", "e || x'00'": "x'6100'",
		"c like '%' || 'c'": "TRUE", "c not like '_b_'": "FALSE", "c like b": "NULL", "b like c": "NULL", "a not in (1, 3)": "TRUE", "a not in (1, b)": "NULL", "b in (b)": "NULL", "a between b and 1": "FALSE", "c between 'abc' and 'abd'": "TRUE",
		"upper(substr(c, a, a)) || trim(' x ')": "'BCx'", "coalesce(b, b, length(c)) + abs(-3)": "6", "nullif(a, 2) is null": "TRUE", "instr(c, 'c') > a": "TRUE", "length(e)": "1", "NULL": "NULL", "x''": "x''",
		"a + c": "ErrType", "a = e": "ErrType", "e = c": "ErrType", "c and d": "ErrType", "not c": "ErrType", "d + 1": "ErrType", "e like c": "ErrType", "c || e": "ErrType", "d = 1": "ErrType", "length(a)": "ErrType",
		"a / (a - 2)": "ErrZero", "b / 0": "NULL", "d or 1 % 0 = 0": "ErrZero", "coalesce(a, 1 / 0)": "ErrZero", "9223372036854775807 + a": "ErrOver", "abs(-9223372036854775808)": "ErrOver", "c like '\\a'": "ErrLike", "b like '\\a'": "NULL",
		"sqrt(a)": "ErrArg", "abs(a, a)": "ErrArg", "coalesce()": "ErrArg", "substr(c, 1, -1)": "ErrArg", "sqrt(1 / 0)": "ErrZero", "sqrt('a' + 1)": "ErrType",
	} {
		e, _, err := expr.Parse(s)
		if err != api.OK {
			t.Fatalf("%q: %d", s, err)
		}
		v, err := eval.Eval(bound(e), api.Row{num(2), null(), text("abc"), yes(), blob("a")})
		if got := told(v, err); got != want {
			t.Errorf("%q: got %s, want %s", s, got, want)
		}
	}
}

// bound puts the columns a, b, c and so on as the places 0, 1, 2 and so on.
func bound(e api.Expr) api.Expr {
	if e.Op == "col" {
		return at(int64(e.Name[0] - 'a'))
	}
	for i := range e.L {
		e.L[i] = bound(e.L[i])
	}
	return e
}

// told is a value as it is written, or an error's name.
func told(v api.Value, err api.Errno) string {
	names := map[api.Errno]string{api.ErrArg: "ErrArg", api.ErrType: "ErrType", api.ErrOver: "ErrOver", api.ErrZero: "ErrZero", api.ErrLike: "ErrLike"}
	if err != api.OK {
		return names[err]
	}
	s, _ := expr.Text(lit(v))
	return s
}

// P10.2, R1: deep and long ones end, and so do all that are not bound.
func TestEvalEnds(t *testing.T) {
	evals(t, nested("neg", 60000, at(0)), api.Row{num(5)}, num(5), api.OK)
	evals(t, nested("not", 60001, at(0)), api.Row{yes()}, no(), api.OK)
	evals(t, nested("isnull", 60000, fails()), nil, null(), api.ErrZero)
	long := text(strings.Repeat("a", 100000))
	evals(t, op("like", at(0), at(1)), api.Row{long, text(strings.Repeat("%a", 1000) + "b")}, no(), api.OK)
	evals(t, op("||", at(0), at(0)), api.Row{long}, text(long.S+long.S), api.OK)
	for _, o := range append(append(onesOps(), twosOps()...), "", "lit", "at", "col", "call", "star", "in", "between", "x", "AND") {
		for many := range 5 {
			for _, v := range append(some(), api.Value{Kind: -1}, api.Value{Kind: 64, I: -1, S: "a"}, api.Value{I: 1}) {
				e := api.Expr{Op: o, V: v}
				for range many {
					e.L = append(e.L, lit(v))
				}
				eval.Eval(e, nil)
				eval.Eval(e, api.Row{v})
				eval.Eval(op("and", e, e), api.Row{v})
			}
		}
	}
	r := rand.New(rand.NewSource(4))
	for range 50000 {
		e := anything(r, 1+r.Intn(4))
		row := api.Row{null(), num(1), text("a"), {Kind: 9, I: 9, S: "9"}}[:r.Intn(5)]
		if v, err := eval.Eval(e, row); err != api.OK && v != null() {
			t.Fatalf("%s: got %s, %d", shown(e), shownValue(v), err)
		}
	}
}
