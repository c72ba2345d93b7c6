package logic_test

import (
	"testing"

	"boscage/api"
	"boscage/logic"
)

// both asks And and Or of the same list.
func both(t *testing.T, l []api.Value, and, or api.Value, e api.Errno) {
	t.Helper()
	if got, f := logic.And(l...); got != and || f != e {
		t.Errorf("And of %v: got %v, %d, want %v, %d", l, got, f, and, e)
	}
	if got, f := logic.Or(l...); got != or || f != e {
		t.Errorf("Or of %v: got %v, %d, want %v, %d", l, got, f, or, e)
	}
}

// P2.1: of none, one and two, written out.
func TestAndOr(t *testing.T) {
	for _, x := range []struct {
		l       []api.Value
		and, or api.Value
	}{
		{nil, yes, no},
		{[]api.Value{}, yes, no},
		{[]api.Value{no}, no, no},
		{[]api.Value{null}, null, null},
		{[]api.Value{yes}, yes, yes},
		{[]api.Value{no, no}, no, no},
		{[]api.Value{no, null}, no, null},
		{[]api.Value{no, yes}, no, yes},
		{[]api.Value{null, null}, null, null},
		{[]api.Value{null, yes}, null, yes},
		{[]api.Value{yes, yes}, yes, yes},
	} {
		both(t, x.l, x.and, x.or, api.OK)
		if len(x.l) == 2 {
			both(t, []api.Value{x.l[1], x.l[0]}, x.and, x.or, api.OK)
		}
	}
}

// P2.1: all lists of up to five truths.
func TestAndOrAll(t *testing.T) {
	for _, l := range listsOf(truths(), 5) {
		and, or := yes, no
		if has(l, null) {
			and, or = null, null
		}
		if has(l, no) {
			and = no
		}
		if has(l, yes) {
			or = yes
		}
		both(t, l, and, or, api.OK)
	}
}

// P2.1: one that tells is found wherever it stands among many.
func TestAndOrLong(t *testing.T) {
	n := 1000
	for _, at := range []int{0, 1, n / 2, n - 2, n - 1} {
		all, none := make([]api.Value, n), make([]api.Value, n)
		for i := range n {
			all[i], none[i] = yes, no
		}
		both(t, all, yes, yes, api.OK)
		both(t, none, no, no, api.OK)
		all[at], none[at] = null, null
		both(t, all, null, yes, api.OK)
		both(t, none, no, null, api.OK)
		all[at], none[at] = no, yes
		both(t, all, no, yes, api.OK)
		both(t, none, no, yes, api.OK)
	}
}

// P2.1: one that is no truth is ErrType wherever it stands, also behind one that would tell.
func TestAndOrType(t *testing.T) {
	for _, l := range listsOf(truths(), 3) {
		for at := range len(l) + 1 {
			for _, v := range untruths() {
				both(t, with(l, at, v), null, null, api.ErrType)
			}
		}
	}
}

// Words: one that may not be is ErrArg wherever it stands, ahead of ErrType.
func TestAndOrArg(t *testing.T) {
	for _, l := range listsOf([]api.Value{no, null, yes, num(1), text("")}, 3) {
		for at := range len(l) + 1 {
			for _, v := range wrongs() {
				both(t, with(l, at, v), null, null, api.ErrArg)
			}
		}
	}
}

// P2.1: Not.
func TestNot(t *testing.T) {
	for _, x := range []struct{ v, want api.Value }{{no, yes}, {yes, no}, {null, null}} {
		if got, e := logic.Not(x.v); got != x.want || e != api.OK {
			t.Errorf("%v: got %v, %d, want %v", x.v, got, e, x.want)
		}
	}
	for _, v := range untruths() {
		if got, e := logic.Not(v); got != null || e != api.ErrType {
			t.Errorf("%v: got %v, %d, want ErrType", v, got, e)
		}
	}
	for _, v := range wrongs() {
		if got, e := logic.Not(v); got != null || e != api.ErrArg {
			t.Errorf("%v: got %v, %d, want ErrArg", v, got, e)
		}
	}
}

// P2.3: of all values, those that may not be among them, only TRUE holds.
func TestHolds(t *testing.T) {
	if !logic.Holds(yes) {
		t.Error("TRUE does not hold")
	}
	for _, v := range append(append(ordered(), untruths()...), wrongs()...) {
		if got := logic.Holds(v); got != (v == yes) {
			t.Errorf("%v: got %t", v, got)
		}
	}
}

// P2.4: De Morgan's laws, of all lists of up to five truths.
func TestDeMorgan(t *testing.T) {
	for _, l := range listsOf(truths(), 5) {
		var turned []api.Value
		for _, v := range l {
			n, _ := logic.Not(v)
			turned = append(turned, n)
		}
		and, _ := logic.And(l...)
		or, _ := logic.Or(l...)
		notAnd, _ := logic.Not(and)
		notOr, _ := logic.Not(or)
		both(t, turned, notOr, notAnd, api.OK)
	}
}

// P2.4: And and Or do not hang on the order, nor do their errors.
func TestAndOrAnyOrder(t *testing.T) {
	for _, l := range listsOf([]api.Value{no, null, yes, num(1), {Kind: 9}}, 4) {
		and, e := logic.And(l...)
		or, f := logic.Or(l...)
		if e != f {
			t.Fatalf("%v: And says %d, Or %d", l, e, f)
		}
		for i := range l {
			for k := range i {
				other := append([]api.Value{}, l...)
				other[i], other[k] = other[k], other[i]
				both(t, other, and, or, e)
			}
		}
	}
}

// R2: what is handed in stays as it is, also what lies behind it in the same memory.
func TestHandedInStays(t *testing.T) {
	for _, l := range listsOf([]api.Value{no, null, yes, num(1), {Kind: 9}}, 3) {
		room := append(append([]api.Value{}, l...), num(7), num(8))
		was := append([]api.Value{}, room...)
		logic.And(room[:len(l)]...)
		logic.Or(room[:len(l)]...)
		logic.In(num(1), room[:len(l)]...)
		logic.In(yes, room[:len(l)]...)
		for i := range was {
			if room[i] != was[i] {
				t.Fatalf("%v: changed to %v", was, room)
			}
		}
	}
}
