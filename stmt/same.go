package stmt

import (
	"slices"

	"boscage/api"
	"boscage/expr"
)

// Same tells whether all parts of two statements are the same.
func Same(a, b api.Stmt) bool {
	return a.Op == b.Op && sameQuery(a.Q, b.Q) &&
		a.Table == b.Table && a.Index == b.Index && a.Unique == b.Unique &&
		slices.Equal(a.Cols, b.Cols) && slices.Equal(a.Names, b.Names) &&
		slices.EqualFunc(a.Rows, b.Rows, sameExprs) && slices.EqualFunc(a.Sets, b.Sets, sameSet) &&
		expr.Same(a.Where, b.Where)
}

func sameQuery(a, b api.Query) bool {
	return a.Op == b.Op && sameSelect(a.S, b.S) &&
		slices.EqualFunc(a.L, b.L, sameQuery) && slices.EqualFunc(a.Order, b.Order, sameKey) &&
		a.Limit == b.Limit && a.Offset == b.Offset
}

func sameSelect(a, b api.Select) bool {
	return a.Distinct == b.Distinct && slices.EqualFunc(a.Items, b.Items, sameItem) &&
		sameFrom(a.From, b.From) && expr.Same(a.Where, b.Where) &&
		sameExprs(a.Group, b.Group) && expr.Same(a.Having, b.Having)
}

func sameItem(a, b api.Item) bool {
	return a.Star == b.Star && a.Table == b.Table && expr.Same(a.E, b.E) && a.As == b.As
}

func sameFrom(a, b api.From) bool {
	return a.Table == b.Table && a.As == b.As && a.Join == b.Join &&
		slices.EqualFunc(a.L, b.L, sameFrom) && expr.Same(a.On, b.On)
}

func sameKey(a, b api.Key) bool {
	return a.Desc == b.Desc && expr.Same(a.E, b.E)
}

func sameSet(a, b api.Set) bool {
	return a.Name == b.Name && expr.Same(a.E, b.E)
}

func sameExprs(a, b []api.Expr) bool {
	return slices.EqualFunc(a, b, expr.Same)
}
