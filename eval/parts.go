package eval

import (
	"slices"

	"boscage/api"
)

func lit(v api.Value) api.Expr { return api.Expr{Op: "lit", V: v} }

// withParts is an expression, in memory of its own, with each part put as what it is turned into.
func withParts(e api.Expr, turned func(part api.Expr) api.Expr) api.Expr {
	e.L = slices.Clone(e.L)
	for i, part := range e.L {
		e.L[i] = turned(part)
	}
	return e
}

// copied is an expression in memory of its own.
func copied(e api.Expr) api.Expr { return withParts(e, copied) }
