package logic_test

import (
	"testing"

	"boscage/api"
	"boscage/logic"
)

func ops() []string { return []string{"=", "<>", "<", "<=", ">", ">="} }

// wanted is what op says of two places in the order.
func wanted(op string, i, k int) api.Value {
	return truth(i == k && (op == "=" || op == "<=" || op == ">=") || i < k && (op == "<>" || op == "<" || op == "<=") || i > k && (op == "<>" || op == ">" || op == ">="))
}

// P2.2: Rel, written out.
func TestRel(t *testing.T) {
	for _, x := range []struct {
		op         string
		a, b, want api.Value
		e          api.Errno
	}{
		{"=", num(1), num(1), yes, api.OK},
		{"=", num(1), num(2), no, api.OK},
		{"<>", num(1), num(1), no, api.OK},
		{"<>", num(1), num(2), yes, api.OK},
		{"<", num(-2), num(1), yes, api.OK},
		{"<", num(1), num(1), no, api.OK},
		{"<=", num(1), num(1), yes, api.OK},
		{"<=", num(2), num(1), no, api.OK},
		{">", num(2), num(-3), yes, api.OK},
		{">", num(2), num(2), no, api.OK},
		{">=", num(2), num(2), yes, api.OK},
		{">=", num(1), num(2), no, api.OK},
		{"<", no, yes, yes, api.OK},
		{"<", text("Z"), text("a"), yes, api.OK},
		{"<", text("10"), text("9"), yes, api.OK},
		{"=", text("a"), text("A"), no, api.OK},
		{"=", text("a"), text("a "), no, api.OK},
		{"=", blob(""), blob(""), yes, api.OK},
		{"<", blob("\x7f"), blob("\x80"), yes, api.OK},
		{"=", null, null, null, api.OK},
		{"<>", null, num(1), null, api.OK},
		{"<", text(""), null, null, api.OK},
		{"<", num(1), text("a"), null, api.ErrType},
		{"=", num(1), yes, null, api.ErrType},
		{"=", text("a"), blob("a"), null, api.ErrType},
		{"<>", no, num(0), null, api.ErrType},
	} {
		if got, e := logic.Rel(x.op, x.a, x.b); got != x.want || e != x.e {
			t.Errorf("%v %s %v: got %v, %d, want %v, %d", x.a, x.op, x.b, got, e, x.want, x.e)
		}
	}
}

// P2.2: all Rels of values of all Kinds.
func TestRelAll(t *testing.T) {
	l := ordered()
	for _, op := range ops() {
		for i, a := range l {
			for k, b := range l {
				want, e := wanted(op, i, k), api.OK
				if a == null || b == null {
					want = null
				} else if a.Kind != b.Kind {
					want, e = null, api.ErrType
				}
				if got, f := logic.Rel(op, a, b); got != want || f != e {
					t.Errorf("%v %s %v: got %v, %d, want %v, %d", a, op, b, got, f, want, e)
				}
			}
		}
	}
}

// P2.2: what is none of the six is ErrArg, ahead of NULL and of ErrType.
func TestRelWrongOp(t *testing.T) {
	l := append([]api.Value{null, yes, num(1), text("a"), blob("a")}, wrongs()...)
	for _, op := range []string{"", "==", "!=", "=<", "=>", "><", "<<", ">>", "<=>", " =", "= ", "<\x00", "is", "in", "and", "≤", "lt"} {
		for _, a := range l {
			for _, b := range l {
				if got, e := logic.Rel(op, a, b); got != null || e != api.ErrArg {
					t.Errorf("%v %q %v: got %v, %d, want ErrArg", a, op, b, got, e)
				}
			}
		}
	}
}

// Words: a value that may not be is ErrArg on either side, ahead of NULL and of ErrType.
func TestRelIsWrongValue(t *testing.T) {
	for _, v := range wrongs() {
		for _, other := range append(ordered(), wrongs()...) {
			for _, pair := range [][2]api.Value{{v, other}, {other, v}} {
				for _, op := range ops() {
					if got, e := logic.Rel(op, pair[0], pair[1]); got != null || e != api.ErrArg {
						t.Errorf("%v %s %v: got %v, %d, want ErrArg", pair[0], op, pair[1], got, e)
					}
				}
				if got, e := logic.Is(pair[0], pair[1]); got != null || e != api.ErrArg {
					t.Errorf("%v is %v: got %v, %d, want ErrArg", pair[0], pair[1], got, e)
				}
			}
		}
	}
}

// P2.2: Is, of values of all Kinds.
func TestIs(t *testing.T) {
	l := ordered()
	for i, a := range l {
		for k, b := range l {
			want, e := truth(i == k), api.OK
			if a != null && b != null && a.Kind != b.Kind {
				want, e = null, api.ErrType
			}
			if got, f := logic.Is(a, b); got != want || f != e {
				t.Errorf("%v is %v: got %v, %d, want %v, %d", a, b, got, f, want, e)
			}
		}
	}
}

// P2.2: In, written out.
func TestIn(t *testing.T) {
	for _, x := range []struct {
		v    api.Value
		l    []api.Value
		want api.Value
		e    api.Errno
	}{
		{num(1), nil, no, api.OK},
		{null, nil, no, api.OK},
		{null, []api.Value{}, no, api.OK},
		{num(1), []api.Value{num(1)}, yes, api.OK},
		{num(1), []api.Value{num(2)}, no, api.OK},
		{num(1), []api.Value{num(2), num(3), num(1)}, yes, api.OK},
		{num(1), []api.Value{num(2), null}, null, api.OK},
		{num(1), []api.Value{null, num(2), num(1)}, yes, api.OK},
		{num(1), []api.Value{null}, null, api.OK},
		{null, []api.Value{null}, null, api.OK},
		{null, []api.Value{num(1), text("a")}, null, api.OK},
		{no, []api.Value{yes, no}, yes, api.OK},
		{text("a"), []api.Value{text("A"), text("aa"), text("")}, no, api.OK},
		{blob("\x00"), []api.Value{blob(""), blob("\x00")}, yes, api.OK},
		{num(1), []api.Value{text("1")}, null, api.ErrType},
		{num(1), []api.Value{num(1), text("1")}, null, api.ErrType},
		{num(1), []api.Value{text("1"), num(1)}, null, api.ErrType},
		{num(1), []api.Value{null, blob("")}, null, api.ErrType},
		{text("a"), []api.Value{blob("a")}, null, api.ErrType},
	} {
		if got, e := logic.In(x.v, x.l...); got != x.want || e != x.e {
			t.Errorf("%v in %v: got %v, %d, want %v, %d", x.v, x.l, got, e, x.want, x.e)
		}
	}
}

// P2.2: In is Or of Rels, and has the first error of these.
func TestInIsOrOfRels(t *testing.T) {
	some := []api.Value{null, yes, num(1), num(2), text("1")}
	for _, l := range listsOf(some, 4) {
		for _, v := range some {
			var rels []api.Value
			first := api.OK
			for _, x := range l {
				r, e := logic.Rel("=", v, x)
				if first == api.OK {
					first = e
				}
				rels = append(rels, r)
			}
			want := null
			if first == api.OK {
				want, _ = logic.Or(rels...)
			}
			if got, e := logic.In(v, l...); got != want || e != first {
				t.Errorf("%v in %v: got %v, %d, want %v, %d", v, l, got, e, want, first)
			}
		}
	}
}

// Words: one that may not be is ErrArg wherever it stands, also behind one that is of another Kind, or the same.
func TestInWrongValue(t *testing.T) {
	lists := listsOf([]api.Value{null, num(1), text("1")}, 3)
	for _, wrong := range wrongs() {
		for _, l := range lists {
			if got, e := logic.In(wrong, l...); got != null || e != api.ErrArg {
				t.Errorf("%v in %v: got %v, %d, want ErrArg", wrong, l, got, e)
			}
			for at := range len(l) + 1 {
				for _, v := range []api.Value{null, num(1), text("1"), wrong} {
					if got, e := logic.In(v, with(l, at, wrong)...); got != null || e != api.ErrArg {
						t.Errorf("%v in %v: got %v, %d, want ErrArg", v, with(l, at, wrong), got, e)
					}
				}
			}
		}
	}
}

// P2.4: of two values of one Kind just one of <, = and > is TRUE, and the others are FALSE.
func TestOneOfThree(t *testing.T) {
	for _, a := range ordered() {
		for _, b := range ordered() {
			if a.Kind != b.Kind || a == null {
				continue
			}
			n := 0
			for _, op := range []string{"<", "=", ">"} {
				v, e := logic.Rel(op, a, b)
				if e != api.OK || v != yes && v != no {
					t.Fatalf("%v %s %v: got %v, %d", a, op, b, v, e)
				}
				if logic.Holds(v) {
					n++
				}
			}
			if n != 1 {
				t.Errorf("%v, %v: %d are TRUE", a, b, n)
			}
		}
	}
}

// P2.4: each of <=, >= and <> is NOT of its other one, with NULL and with errors too.
func TestNotOfTheOther(t *testing.T) {
	other := map[string]string{"<=": ">", ">=": "<", "<>": "="}
	for _, a := range append(ordered(), wrongs()...) {
		for _, b := range append(ordered(), wrongs()...) {
			for op, contrary := range other {
				got, e := logic.Rel(op, a, b)
				v, f := logic.Rel(contrary, a, b)
				want, _ := logic.Not(v)
				if got != want || e != f {
					t.Errorf("%v %s %v: got %v, %d, want %v, %d", a, op, b, got, e, want, f)
				}
			}
		}
	}
}
