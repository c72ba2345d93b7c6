package naive

import (
	"slices"

	"boscage/api"
	"boscage/rows"
)

// node is one of algebra, with what it is done of: all tables' rows, and the rows of each that it works on.
type node struct {
	api.Alg
	db    []api.Data
	below [][]api.Row
}

// way is how a node is done that works on so many others.
type way struct {
	parts int
	do    func() ([]api.Row, api.Errno)
}

// done tells a node's rows.
func (n *node) done() ([]api.Row, api.Errno) {
	w, ok := n.ways()[n.Op]
	if !ok || len(n.below) != w.parts {
		return nil, api.ErrArg
	}
	return w.do()
}

func (n *node) ways() map[string]way {
	return map[string]way{
		"scan":     {0, n.scan},
		"one":      {0, n.one},
		"filter":   {1, n.filter},
		"project":  {1, n.project},
		"join":     {2, n.join},
		"group":    {1, n.group},
		"distinct": {1, n.distinct},
		"put":      {2, n.put},
		"sort":     {1, n.sort},
		"limit":    {1, n.limit},
	}
}

// scan copies the rows, since they may be the whole answer, which shares nothing with what was handed in.
func (n *node) scan() ([]api.Row, api.Errno) {
	l, ok := rowsOf(n.Table, n.db)
	if !ok {
		return nil, api.ErrNone
	}
	out := make([]api.Row, len(l))
	for i, r := range l {
		out[i] = slices.Clone(r)
	}
	return out, api.OK
}

func (n *node) one() ([]api.Row, api.Errno) { return make([]api.Row, 1), api.OK }

func (n *node) filter() ([]api.Row, api.Errno) { return rows.Filter(n.below[0], n.E) }

func (n *node) project() ([]api.Row, api.Errno) { return rows.Project(n.below[0], n.Es) }

func (n *node) join() ([]api.Row, api.Errno) {
	return rows.Join(n.Kind, n.below[0], n.below[1], n.L[0].Wide, n.L[1].Wide, n.E)
}

func (n *node) group() ([]api.Row, api.Errno) { return rows.Group(n.below[0], n.Es, n.Aggs) }

func (n *node) distinct() ([]api.Row, api.Errno) { return rows.Distinct(n.below[0]), api.OK }

func (n *node) put() ([]api.Row, api.Errno) { return rows.Put(n.Kind, n.below[0], n.below[1]) }

func (n *node) sort() ([]api.Row, api.Errno) { return rows.Sort(n.below[0], n.Keys) }

func (n *node) limit() ([]api.Row, api.Errno) {
	return rows.Limit(n.below[0], n.N, n.Off), api.OK
}
