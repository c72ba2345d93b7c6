package bind

import (
	"boscage/api"
	"boscage/eval"
)

// ground is what a query stands on so far: algebra, and the scope of its rows.
type ground struct {
	scope
	alg api.Alg
}

// over puts a node on what there is.
func (g ground) over(node api.Alg) ground {
	node.L = []api.Alg{g.alg}
	node.Wide = wideOf(node)
	g.alg = node
	return g
}

// bound is an expression bound in the scope. What none can be read as is bound there too, but is none that algebra may have.
func (g ground) bound(e api.Expr) (api.Expr, api.Errno) {
	e, err := g.scope.bound(e)
	if err == api.OK {
		err = eval.Check(e, len(g.scope))
	}
	if err != api.OK {
		return api.Expr{}, err
	}
	return e, api.OK
}

func (g ground) allBound(l []api.Expr) ([]api.Expr, api.Errno) {
	out := make([]api.Expr, len(l))
	for i, e := range l {
		b, err := g.bound(e)
		if err != api.OK {
			return nil, err
		}
		out[i] = b
	}
	return out, api.OK
}

// filtered are the rows of which a condition is TRUE, if there is one.
func (g ground) filtered(condition api.Expr) (ground, api.Errno) {
	if condition.Op == "" {
		return g, api.OK
	}
	e, err := g.bound(condition)
	if err != api.OK {
		return ground{}, err
	}
	return g.over(api.Alg{Op: "filter", E: e}), api.OK
}

// projected are the items' values, by their names.
func (g ground) projected(items []api.Item) (ground, api.Errno) {
	if g.wide(items) > maxWide {
		return ground{}, api.ErrLong
	}
	var es []api.Expr
	var names scope
	for _, item := range items {
		more, theirs, err := g.item(item)
		if err != api.OK {
			return ground{}, err
		}
		es, names = append(es, more...), append(names, theirs...)
	}
	g.scope = names
	return g.over(api.Alg{Op: "project", Es: es}), api.OK
}

// wide is how many values items have.
func (g ground) wide(items []api.Item) int {
	wide := 0
	for _, item := range items {
		if item.Star {
			wide += len(g.places(item.Table))
		} else {
			wide++
		}
	}
	return wide
}

// item is an item's expressions, and their names.
func (g ground) item(item api.Item) ([]api.Expr, scope, api.Errno) {
	if item.Star {
		return g.star(item.Table)
	}
	e, err := g.bound(item.E)
	if err != api.OK {
		return nil, nil, err
	}
	return []api.Expr{e}, scope{told(nameOf(item))}, api.OK
}

// star is a table's columns; of no table all.
func (g ground) star(table string) ([]api.Expr, scope, api.Errno) {
	var es []api.Expr
	var names scope
	for _, place := range g.places(table) {
		es, names = append(es, at(place)), append(names, told(g.scope[place].name))
	}
	if table != "" && len(es) == 0 {
		return nil, nil, api.ErrName
	}
	return es, names, api.OK
}

// nameOf is the name of an item that is no Star.
func nameOf(item api.Item) string {
	if item.As == "" && item.E.Op == "col" {
		return item.E.Name
	}
	return item.As
}

func (g ground) sorted(order []api.Key) (ground, api.Errno) {
	keys := make([]api.Key, len(order))
	for i, k := range order {
		e, err := g.key(k.E)
		if err != api.OK {
			return ground{}, err
		}
		keys[i] = api.Key{E: e, Desc: k.Desc}
	}
	return g.over(api.Alg{Op: "sort", Keys: keys}), api.OK
}

// key is the column that a lit counts to, from 1 on, or an expression of the names.
func (g ground) key(e api.Expr) (api.Expr, api.Errno) {
	if e.Op != "lit" {
		return g.bound(e)
	}
	if e.V.Kind != api.Int || e.V.I < 1 || e.V.I > int64(len(g.scope)) {
		return api.Expr{}, api.ErrUse
	}
	return at(int(e.V.I - 1)), api.OK
}
