package logic

import (
	"boscage/api"
	"boscage/value"
)

// Rel tells whether two values stand to one another as op says; of NULL nobody knows.
func Rel(op string, a, b api.Value) (api.Value, api.Errno) {
	so, known := related(op, value.Compare(a, b))
	if !known {
		return api.Value{}, api.ErrArg
	}
	if e := check(a, b); e != api.OK {
		return api.Value{}, e
	}
	if a.Kind == api.Null || b.Kind == api.Null {
		return api.Value{}, api.OK
	}
	if a.Kind != b.Kind {
		return api.Value{}, api.ErrType
	}
	return truth(so), api.OK
}

// related tells whether an order of -1, 0 or 1 is as op says, and whether op is one at all.
func related(op string, order int) (so, known bool) {
	switch op {
	case "=":
		return order == 0, true
	case "<>":
		return order != 0, true
	case "<":
		return order < 0, true
	case "<=":
		return order <= 0, true
	case ">":
		return order > 0, true
	case ">=":
		return order >= 0, true
	}
	return false, false
}

// Is tells whether two values are the same; here NULL is a value like others.
func Is(a, b api.Value) (api.Value, api.Errno) {
	if e := check(a, b); e != api.OK {
		return api.Value{}, e
	}
	if a.Kind != api.Null && b.Kind != api.Null && a.Kind != b.Kind {
		return api.Value{}, api.ErrType
	}
	return truth(value.Same(a, b)), api.OK
}

// In tells whether a value is the same as one of l.
func In(v api.Value, l ...api.Value) (api.Value, api.Errno) {
	if e := check(v); e != api.OK {
		return api.Value{}, e
	}
	if e := check(l...); e != api.OK {
		return api.Value{}, e
	}
	equals := make([]api.Value, len(l))
	for i, other := range l {
		equal, e := Rel("=", v, other)
		if e != api.OK {
			return api.Value{}, e
		}
		equals[i] = equal
	}
	return Or(equals...)
}
