package eval

import (
	"boscage/api"
	"boscage/like"
	"boscage/logic"
	"boscage/scalar"
)

// deed is what an Op does with the values of its parts.
type deed func(l []api.Value) (api.Value, api.Errno)

// deedOf is what an expression's Op does, of a row.
func deedOf(e api.Expr, r api.Row) deed {
	switch op, v, name := e.Op, e.V, e.Name; op {
	case "lit":
		return func([]api.Value) (api.Value, api.Errno) { return v, api.OK }
	case "at":
		return func([]api.Value) (api.Value, api.Errno) { return valueAt(r, v.I) }
	case "neg":
		return one(scalar.Neg)
	case "+", "-", "*", "/", "%":
		return two(func(a, b api.Value) (api.Value, api.Errno) { return scalar.Arith(op, a, b) })
	case "||":
		return two(scalar.Join)
	case "call":
		return func(l []api.Value) (api.Value, api.Errno) { return scalar.Call(name, l...) }
	case "not":
		return one(logic.Not)
	case "and":
		return func(l []api.Value) (api.Value, api.Errno) { return logic.And(l...) }
	case "or":
		return func(l []api.Value) (api.Value, api.Errno) { return logic.Or(l...) }
	case "=", "<>", "<", "<=", ">", ">=":
		return two(func(a, b api.Value) (api.Value, api.Errno) { return logic.Rel(op, a, b) })
	case "isnull":
		return one(func(v api.Value) (api.Value, api.Errno) { return truth(v.Kind == api.Null), api.OK })
	case "notnull":
		return one(func(v api.Value) (api.Value, api.Errno) { return truth(v.Kind != api.Null), api.OK })
	case "in":
		return in
	case "like":
		return two(likened)
	case "between":
		return between
	}
	return refuse
}

// What is bound has as many parts as its Op wants; of all else a deed refuses, so that none is asked for that is not there.

func refuse([]api.Value) (api.Value, api.Errno) { return api.Value{}, api.ErrArg }

func one(do func(v api.Value) (api.Value, api.Errno)) deed {
	return func(l []api.Value) (api.Value, api.Errno) {
		if len(l) != 1 {
			return refuse(l)
		}
		return do(l[0])
	}
}

func two(do func(a, b api.Value) (api.Value, api.Errno)) deed {
	return func(l []api.Value) (api.Value, api.Errno) {
		if len(l) != 2 {
			return refuse(l)
		}
		return do(l[0], l[1])
	}
}

func valueAt(r api.Row, place int64) (api.Value, api.Errno) {
	if place < 0 || place >= int64(len(r)) {
		return api.Value{}, api.ErrArg
	}
	return r[place], api.OK
}

func in(l []api.Value) (api.Value, api.Errno) {
	if len(l) == 0 {
		return refuse(l)
	}
	return logic.In(l[0], l[1:]...)
}

func likened(s, pattern api.Value) (api.Value, api.Errno) {
	if s.Kind == api.Null || pattern.Kind == api.Null {
		return api.Value{}, api.OK
	}
	if s.Kind != api.Text || pattern.Kind != api.Text {
		return api.Value{}, api.ErrType
	}
	is, e := like.Like(s.S, pattern.S)
	if e != api.OK {
		return api.Value{}, e
	}
	return truth(is), api.OK
}

func between(l []api.Value) (api.Value, api.Errno) {
	if len(l) != 3 {
		return refuse(l)
	}
	atLeast, e := logic.Rel(">=", l[0], l[1])
	if e != api.OK {
		return api.Value{}, e
	}
	atMost, e := logic.Rel("<=", l[0], l[2])
	if e != api.OK {
		return api.Value{}, e
	}
	return logic.And(atLeast, atMost)
}

func truth(b bool) api.Value {
	if b {
		return api.Value{Kind: api.Bool, I: 1}
	}
	return api.Value{Kind: api.Bool}
}
