package bind

import (
	"slices"

	"boscage/api"
	"boscage/expr"
)

// turn tells what an expression is put as, if it is put as another one as a whole.
type turn func(e api.Expr) (api.Expr, bool, api.Errno)

// turned is an expression, in memory of its own, put as a turn tells: the whole is asked for ahead of its parts, and each part ahead of what is behind it.
func turned(e api.Expr, by turn) (api.Expr, api.Errno) {
	put, is, err := by(e)
	if err != api.OK {
		return api.Expr{}, err
	}
	if is {
		return put, api.OK
	}
	e.L = slices.Clone(e.L)
	for i, part := range e.L {
		if e.L[i], err = turned(part, by); err != api.OK {
			return api.Expr{}, err
		}
	}
	return e, api.OK
}

func at(place int) api.Expr {
	return api.Expr{Op: "at", V: api.Value{Kind: api.Int, I: int64(place)}}
}

func isAggregate(e api.Expr) bool { return e.Op == "call" && isAggregateName(e.Name) }

func isAggregateName(name string) bool {
	switch name {
	case "count", "sum", "min", "max":
		return true
	}
	return false
}

func hasAggregate(e api.Expr) bool {
	return isAggregate(e) || slices.ContainsFunc(e.L, hasAggregate)
}

func isStar(e api.Expr) bool { return expr.Same(e, api.Expr{Op: "star"}) }
func isNone(e api.Expr) bool { return expr.Same(e, api.Expr{}) }
