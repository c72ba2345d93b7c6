package bind

import (
	"slices"

	"boscage/api"
	"boscage/eval"
)

func isJoin(kind string) bool {
	switch kind {
	case "inner", "left", "right", "full", "cross":
		return true
	}
	return false
}

func isPut(op string) bool {
	switch op {
	case "union", "unionall", "intersect", "except":
		return true
	}
	return false
}

// hasItsParts tells whether a node has an Op, as many nodes as that works on, a Kind that goes with it, and right aggregates.
func hasItsParts(a api.Alg) bool {
	switch a.Op {
	case "scan", "one":
		return len(a.L) == 0
	case "filter", "project", "distinct", "sort", "limit":
		return len(a.L) == 1
	case "group":
		return len(a.L) == 1 && areAggs(a.Aggs)
	case "join":
		return len(a.L) == 2 && isJoin(a.Kind)
	case "put":
		return len(a.L) == 2 && isPut(a.Kind)
	}
	return false
}

func areAggs(l []api.Agg) bool {
	for _, a := range l {
		if !isAggregateName(a.Name) || a.Star && (a.Name != "count" || !isNone(a.E)) {
			return false
		}
	}
	return true
}

// hasNoMore tells whether a node is empty without what its Op has.
func hasNoMore(a api.Alg) bool {
	switch a.Op {
	case "scan":
		a.Table = ""
	case "filter":
		a.E = api.Expr{}
	case "project":
		a.Es = nil
	case "join":
		if a.Kind != "cross" {
			a.E = api.Expr{}
		}
		a.Kind = ""
	case "group":
		a.Es, a.Aggs = nil, nil
	case "put":
		a.Kind = ""
	case "sort":
		a.Keys = nil
	case "limit":
		a.N, a.Off = 0, 0
	}
	return a.Table == "" && a.Kind == "" && isNone(a.E) &&
		len(a.Es) == 0 && len(a.Aggs) == 0 && len(a.Keys) == 0 && a.N == 0 && a.Off == 0
}

// isWide tells whether a node's Wide is right, if those are right of what it works on.
func isWide(a api.Alg, db []api.Cols) bool {
	switch a.Op {
	case "scan":
		t, is := tables(db).table(a.Table)
		return is && a.Wide == len(t.L) && a.Wide <= maxWide
	case "put":
		return a.Wide == a.L[0].Wide && a.Wide == a.L[1].Wide
	}
	return a.Wide == wideOf(a) && a.Wide <= maxWide
}

// wideOf is how wide a node is that is no scan and no put.
func wideOf(a api.Alg) int {
	switch a.Op {
	case "project":
		return len(a.Es)
	case "group":
		return len(a.Es) + len(a.Aggs)
	}
	return wideBelow(a)
}

// wideBelow is how wide all is that a node works on.
func wideBelow(a api.Alg) int {
	wide := 0
	for _, part := range a.L {
		wide += part.Wide
	}
	return wide
}

// isBound tells whether a node's expressions are bound within what they are of. A filter's is one that it must have, as is a join's, but of cross.
func isBound(a api.Alg) bool {
	l := slices.Clone(a.Es)
	if a.Op == "filter" || a.Op == "join" && a.Kind != "cross" {
		l = append(l, a.E)
	}
	for _, g := range a.Aggs {
		if !g.Star {
			l = append(l, g.E)
		}
	}
	for _, k := range a.Keys {
		l = append(l, k.E)
	}
	wide := wideBelow(a)
	return !slices.ContainsFunc(l, func(e api.Expr) bool { return eval.Check(e, wide) != api.OK })
}
