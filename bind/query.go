package bind

import (
	"slices"

	"boscage/api"
)

// maxWide is how many values a row has at the most.
const maxWide = 64

// tables are those that a query may name.
type tables []api.Cols

// query is a query's algebra. What is handed down here is pointed at, as it is great, and queries may be nested deep.
func (db tables) query(q *api.Query) (ground, api.Errno) {
	g, err := db.unordered(q)
	if err == api.OK && len(q.Order) > 0 {
		g, err = g.sorted(q.Order)
	}
	if err != api.OK {
		return ground{}, err
	}
	if q.Limit >= 0 || q.Offset >= 0 {
		g = g.over(api.Alg{Op: "limit", N: q.Limit, Off: q.Offset})
	}
	return g, api.OK
}

// unordered is a query without its Order, Limit and Offset.
func (db tables) unordered(q *api.Query) (ground, api.Errno) {
	switch {
	case q.Op == "select":
		return db.selected(&q.S)
	case isPut(q.Op) && len(q.L) == 2:
		return db.put(q)
	}
	return ground{}, api.ErrArg
}

func (db tables) put(q *api.Query) (ground, api.Errno) {
	a, err := db.query(&q.L[0])
	if err != api.OK {
		return ground{}, err
	}
	b, err := db.query(&q.L[1])
	if err != api.OK {
		return ground{}, err
	}
	wide := a.alg.Wide
	if wide != b.alg.Wide {
		return ground{}, api.ErrUse
	}
	a.alg = api.Alg{Op: "put", Kind: q.Op, Wide: wide, L: []api.Alg{a.alg, b.alg}}
	return a, api.OK
}

func (db tables) selected(s *api.Select) (ground, api.Errno) {
	g, err := db.from(&s.From)
	if err == api.OK {
		g, err = g.filtered(s.Where)
	}
	if err == api.OK && isGrouped(s) {
		g, s, err = g.grouped(s)
	}
	if err == api.OK {
		g, err = g.filtered(s.Having)
	}
	if err == api.OK {
		g, err = g.projected(s.Items)
	}
	if err != api.OK {
		return ground{}, err
	}
	if s.Distinct {
		g = g.over(api.Alg{Op: "distinct"})
	}
	return g, api.OK
}

func (db tables) from(f *api.From) (ground, api.Errno) {
	switch {
	case f.Join != "":
		return db.joined(f)
	case f.Table != "":
		return db.scanned(f)
	}
	return ground{alg: api.Alg{Op: "one"}}, api.OK
}

func (db tables) scanned(f *api.From) (ground, api.Errno) {
	t, is := db.table(f.Table)
	if !is {
		return ground{}, api.ErrName
	}
	if len(t.L) > maxWide {
		return ground{}, api.ErrLong
	}
	return ground{scopeOf(t, f.As), api.Alg{Op: "scan", Table: f.Table, Wide: len(t.L)}}, api.OK
}

// table is the first one of a name.
func (db tables) table(name string) (api.Cols, bool) {
	i := slices.IndexFunc(db, func(t api.Cols) bool { return t.Table == name })
	if i < 0 {
		return api.Cols{}, false
	}
	return db[i], true
}

func (db tables) joined(f *api.From) (ground, api.Errno) {
	if !isJoin(f.Join) || len(f.L) != 2 {
		return ground{}, api.ErrArg
	}
	a, err := db.from(&f.L[0])
	if err != api.OK {
		return ground{}, err
	}
	b, err := db.from(&f.L[1])
	if err != api.OK {
		return ground{}, err
	}
	wide := a.alg.Wide + b.alg.Wide
	if wide > maxWide {
		return ground{}, api.ErrLong
	}
	if a.sharesTable(b.scope) {
		return ground{}, api.ErrName
	}
	g := ground{slices.Concat(a.scope, b.scope), api.Alg{Op: "join", Kind: f.Join, Wide: wide, L: []api.Alg{a.alg, b.alg}}}
	if f.Join != "cross" {
		g.alg.E, err = g.bound(f.On)
	}
	if err != api.OK {
		return ground{}, err
	}
	return g, api.OK
}
