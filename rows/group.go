package rows

import (
	"slices"

	"boscage/api"
	"boscage/eval"
	"boscage/scalar"
	"boscage/value"
)

// group is what rows have that have the same values of all keys: these, and, of each aggregate, the values that are not NULL.
type group struct {
	keys   api.Row
	values [][]api.Value
}

// groups stand in the order of their first rows; where one stands is told by its keys' text.
type groups struct {
	l      []group
	places map[string]int
}

// Group tells the aggregates of rows that have the same values of all keys.
func Group(l []api.Row, keys []api.Expr, aggs []api.Agg) ([]api.Row, api.Errno) {
	if slices.ContainsFunc(aggs, isWrong) {
		return nil, api.ErrArg
	}
	gs, err := grouped(l, keys, aggs)
	if err != api.OK {
		return nil, err
	}
	out := make([]api.Row, len(gs))
	for i, g := range gs {
		told, err := g.told(aggs)
		if err != api.OK {
			return nil, err
		}
		out[i] = joined(g.keys, told)
	}
	return out, api.OK
}

func isWrong(a api.Agg) bool {
	switch a.Name {
	case "count":
		return false
	case "sum", "min", "max":
		return a.Star
	}
	return true
}

// grouped puts rows into groups. Without keys there is one, also of no rows.
func grouped(l []api.Row, keys []api.Expr, aggs []api.Agg) ([]group, api.Errno) {
	gs := groups{places: map[string]int{}}
	if len(keys) == 0 {
		gs.at(nil, len(aggs))
	}
	for _, r := range l {
		keyed, err := valuesOf(keys, r)
		if err != api.OK {
			return nil, err
		}
		asked, err := askedOf(aggs, r)
		if err != api.OK {
			return nil, err
		}
		g := gs.at(keyed, len(aggs))
		for i, v := range asked {
			if v.Kind != api.Null {
				g.values[i] = append(g.values[i], v)
			}
		}
	}
	return gs.l, api.OK
}

// at is the group of some keys' values, a new one, if there is none.
func (gs *groups) at(keys api.Row, aggs int) *group {
	s := text(keys)
	place, ok := gs.places[s]
	if !ok {
		place = len(gs.l)
		gs.places[s] = place
		gs.l = append(gs.l, group{keys: keys, values: make([][]api.Value, aggs)})
	}
	return &gs.l[place]
}

// askedOf is what aggregates ask of a row.
func askedOf(aggs []api.Agg, r api.Row) ([]api.Value, api.Errno) {
	out := make([]api.Value, len(aggs))
	for i, a := range aggs {
		v, err := asked(a, r)
		if err != api.OK {
			return nil, err
		}
		out[i] = v
	}
	return out, api.OK
}

// asked is what an aggregate asks of a row: with Star a value that counts, whatever the row is.
func asked(a api.Agg, r api.Row) (api.Value, api.Errno) {
	if a.Star {
		return number(1), api.OK
	}
	v, err := eval.Eval(a.E, r)
	if err != api.OK {
		return api.Value{}, err
	}
	if a.Name == "sum" && v.Kind != api.Null && v.Kind != api.Int {
		return api.Value{}, api.ErrType
	}
	return v, api.OK
}

// told is a group's aggregates.
func (g group) told(aggs []api.Agg) (api.Row, api.Errno) {
	out := make(api.Row, len(aggs))
	for i, a := range aggs {
		v, err := aggregate(a.Name, g.values[i])
		if err != api.OK {
			return nil, err
		}
		out[i] = v
	}
	return out, api.OK
}

// aggregate is one of values that are not NULL.
func aggregate(name string, l []api.Value) (api.Value, api.Errno) {
	switch {
	case name == "count":
		return number(int64(len(l))), api.OK
	case len(l) == 0:
		return api.Value{}, api.OK
	case name == "min":
		return slices.MinFunc(l, value.Compare), api.OK
	case name == "max":
		return slices.MaxFunc(l, value.Compare), api.OK
	}
	return sum(l)
}

func sum(l []api.Value) (api.Value, api.Errno) {
	all := number(0)
	for _, v := range l {
		more, err := scalar.Arith("+", all, v)
		if err != api.OK {
			return api.Value{}, err
		}
		all = more
	}
	return all, api.OK
}

func number(n int64) api.Value { return api.Value{Kind: api.Int, I: n} }
