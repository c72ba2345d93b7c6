package bind

import (
	"slices"

	"boscage/api"
	"boscage/expr"
)

// grouping is what expressions behind a group are made of: the group's keys, as they are written, and the aggregates met so far, bound in the ground that is grouped.
type grouping struct {
	ground
	keys []api.Expr
	aggs []api.Agg
}

func isGrouped(s *api.Select) bool {
	return len(s.Group) > 0 || s.Having.Op != "" ||
		slices.ContainsFunc(s.Items, func(i api.Item) bool { return hasAggregate(i.E) })
}

// grouped is a group, and the select's Items and Having as they stand behind it: with places for what the group has. Having goes ahead of the group, as its aggregates are the group's too.
func (g ground) grouped(s *api.Select) (ground, *api.Select, api.Errno) {
	keys, err := g.allBound(s.Group)
	if err != api.OK {
		return ground{}, nil, err
	}
	group := grouping{ground: g, keys: s.Group}
	behind := *s
	if behind.Items, err = group.items(s.Items); err != api.OK {
		return ground{}, nil, err
	}
	if s.Having.Op != "" {
		if behind.Having, err = group.put(s.Having); err != api.OK {
			return ground{}, nil, err
		}
	}
	wide := len(keys) + len(group.aggs)
	if wide > maxWide {
		return ground{}, nil, api.ErrLong
	}
	g.scope = slices.Repeat(scope{told("")}, wide)
	return g.over(api.Alg{Op: "group", Es: keys, Aggs: group.aggs}), &behind, api.OK
}

func (g *grouping) items(l []api.Item) ([]api.Item, api.Errno) {
	out := make([]api.Item, len(l))
	for i, item := range l {
		if item.Star {
			return nil, api.ErrUse
		}
		e, err := g.put(item.E)
		if err != api.OK {
			return nil, err
		}
		out[i] = api.Item{E: e, As: nameOf(item)}
	}
	return out, api.OK
}

// put is an expression with places where it has keys and aggregates.
func (g *grouping) put(e api.Expr) (api.Expr, api.Errno) {
	return turned(e, func(part api.Expr) (api.Expr, bool, api.Errno) {
		key := slices.IndexFunc(g.keys, func(k api.Expr) bool { return expr.Same(k, part) })
		switch {
		case key >= 0:
			return at(key), true, api.OK
		case isAggregate(part):
			a, err := g.agg(part)
			if err != api.OK {
				return api.Expr{}, false, err
			}
			return at(g.placeOf(a)), true, api.OK
		case part.Op == "col", part.Op == "star":
			return api.Expr{}, false, api.ErrUse
		}
		return api.Expr{}, false, api.OK
	})
}

// agg is the aggregate that a call is.
func (g *grouping) agg(call api.Expr) (api.Agg, api.Errno) {
	if len(call.L) != 1 || hasAggregate(call.L[0]) {
		return api.Agg{}, api.ErrUse
	}
	if call.Name == "count" && isStar(call.L[0]) {
		return api.Agg{Name: call.Name, Star: true}, api.OK
	}
	e, err := g.bound(call.L[0])
	if err != api.OK {
		return api.Agg{}, err
	}
	return api.Agg{Name: call.Name, E: e}, api.OK
}

// placeOf is the place of an aggregate behind the keys; it is added, if it is a new one.
func (g *grouping) placeOf(a api.Agg) int {
	i := slices.IndexFunc(g.aggs, func(b api.Agg) bool { return sameAgg(a, b) })
	if i < 0 {
		i = len(g.aggs)
		g.aggs = append(g.aggs, a)
	}
	return len(g.keys) + i
}

func sameAgg(a, b api.Agg) bool {
	return a.Name == b.Name && a.Star == b.Star && expr.Same(a.E, b.E)
}
