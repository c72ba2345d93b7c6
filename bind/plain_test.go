package bind_test

import (
	"slices"

	"boscage/api"
	"boscage/eval"
)

// The plain ways to what the chapter says, without the program's own: the first error is thrown.

type thrown struct{ err api.Errno }

func throw(is bool, err api.Errno) {
	if is {
		panic(thrown{err})
	}
}

// names are a scope: of each column its table's name, and its own.
type names [][2]string

func (s names) find(e api.Expr) int {
	found := -1
	for i, c := range s {
		if c[1] == e.Name && (e.Table == "" || e.Table == c[0]) {
			throw(found >= 0, api.ErrName)
			found = i
		}
	}
	throw(found < 0, api.ErrName)
	return found
}

func (s names) has(table string) int {
	n := 0
	for _, c := range s {
		if c[0] == table {
			n++
		}
	}
	return n
}

func (s names) bind(e api.Expr) api.Expr {
	if e.Op == "col" {
		return at(s.find(e))
	}
	throw(e.Op == "star" || e.Op == "call" && slices.Contains(aggregates(), e.Name), api.ErrUse)
	e.L = slices.Clone(e.L)
	for i := range e.L {
		e.L[i] = s.bind(e.L[i])
	}
	return e
}

// all are all parts of an expression, itself ahead of them.
func all(e api.Expr) []api.Expr {
	l := []api.Expr{e}
	for _, part := range e.L {
		l = append(l, all(part)...)
	}
	return l
}

func plainAgg(e api.Expr) bool { return e.Op == "call" && slices.Contains(aggregates(), e.Name) }

func plainQuery(q api.Query, db []api.Cols) (a api.Alg, l []string, err api.Errno) {
	defer func() {
		if x := recover(); x != nil {
			a, l, err = api.Alg{}, nil, x.(thrown).err
		}
	}()
	a, l = ordered(q, db)
	return a, l, api.OK
}

func ordered(q api.Query, db []api.Cols) (api.Alg, []string) {
	a, l := unordered(q, db)
	var s names
	for i, name := range l {
		if name == "" {
			name = string(rune(i)) // no name: a col of it is none
		}
		s = append(s, [2]string{"", name})
	}
	if len(q.Order) > 0 {
		sort := api.Alg{Op: "sort", Wide: a.Wide, L: []api.Alg{a}}
		for _, k := range q.Order {
			if i := k.E.V.I; k.E.Op == "lit" {
				throw(k.E.V.Kind != api.Int || i < 1 || i > int64(a.Wide), api.ErrUse)
				k.E = at(int(i) - 1)
			} else {
				k.E = s.bind(k.E)
			}
			sort.Keys = append(sort.Keys, k)
		}
		a = sort
	}
	if q.Limit >= 0 || q.Offset >= 0 {
		a = api.Alg{Op: "limit", Wide: a.Wide, N: q.Limit, Off: q.Offset, L: []api.Alg{a}}
	}
	return a, l
}

func unordered(q api.Query, db []api.Cols) (api.Alg, []string) {
	if q.Op != "select" {
		a, l := ordered(q.L[0], db)
		b, _ := ordered(q.L[1], db)
		throw(a.Wide != b.Wide, api.ErrUse)
		return api.Alg{Op: "put", Kind: q.Op, Wide: a.Wide, L: []api.Alg{a, b}}, l
	}
	a, s := plainFrom(q.S.From, db)
	if q.S.Where.Op != "" {
		a = api.Alg{Op: "filter", Wide: a.Wide, E: s.bind(q.S.Where), L: []api.Alg{a}}
	}
	group := len(q.S.Group) > 0 || q.S.Having.Op != ""
	for _, i := range q.S.Items {
		group = group || slices.ContainsFunc(all(i.E), plainAgg)
	}
	var l []string
	if group {
		a, l = plainGroup(a, s, q.S)
	} else {
		a, l = plainProject(a, s, q.S.Items)
	}
	if q.S.Distinct {
		a = api.Alg{Op: "distinct", Wide: a.Wide, L: []api.Alg{a}}
	}
	return a, l
}

func plainFrom(f api.From, db []api.Cols) (api.Alg, names) {
	if f.Table == "" && f.Join == "" {
		return api.Alg{Op: "one"}, nil
	}
	var s names
	if f.Join == "" {
		for _, t := range db {
			if t.Table != f.Table {
				continue
			}
			throw(len(t.L) > 64, api.ErrLong)
			for _, c := range t.L {
				s = append(s, [2]string{f.As, c.Name})
			}
			return api.Alg{Op: "scan", Table: f.Table, Wide: len(s)}, s
		}
		throw(true, api.ErrName)
	}
	a, x := plainFrom(f.L[0], db)
	b, y := plainFrom(f.L[1], db)
	throw(a.Wide+b.Wide > 64, api.ErrLong)
	for _, c := range x {
		throw(y.has(c[0]) > 0, api.ErrName)
	}
	join := api.Alg{Op: "join", Kind: f.Join, Wide: a.Wide + b.Wide, L: []api.Alg{a, b}}
	s = slices.Concat(x, y)
	if f.Join != "cross" {
		join.E = s.bind(f.On)
	}
	return join, s
}

func plainProject(a api.Alg, s names, items []api.Item) (api.Alg, []string) {
	wide := 0
	for _, i := range items {
		switch {
		case !i.Star:
			wide++
		case i.Table == "":
			wide += len(s)
		default:
			wide += s.has(i.Table)
		}
	}
	throw(wide > 64, api.ErrLong)
	project := api.Alg{Op: "project", Wide: wide, L: []api.Alg{a}}
	var l []string
	for _, i := range items {
		if !i.Star {
			project.Es, l = append(project.Es, s.bind(i.E)), append(l, plainName(i))
			continue
		}
		throw(i.Table != "" && s.has(i.Table) == 0, api.ErrName)
		for place, c := range s {
			if i.Table == "" || i.Table == c[0] {
				project.Es, l = append(project.Es, at(place)), append(l, c[1])
			}
		}
	}
	return project, l
}

func plainName(i api.Item) string {
	switch {
	case i.As != "":
		return i.As
	case i.E.Op == "col":
		return i.E.Name
	}
	return ""
}

// plainGroup goes through the parts that stand alone, from the left, one expression after the other.
func plainGroup(a api.Alg, s names, q api.Select) (api.Alg, []string) {
	group := api.Alg{Op: "group", L: []api.Alg{a}}
	for _, e := range q.Group {
		group.Es = append(group.Es, s.bind(e))
	}
	var behind func(e api.Expr) api.Expr
	behind = func(e api.Expr) api.Expr {
		for i, k := range q.Group {
			if shown(k) == shown(e) {
				return at(i)
			}
		}
		throw(e.Op == "col" || e.Op == "star", api.ErrUse)
		if plainAgg(e) {
			throw(len(e.L) != 1 || slices.ContainsFunc(all(e)[1:], plainAgg), api.ErrUse)
			agg := api.Agg{Name: e.Name, Star: e.Name == "count" && e.L[0].Op == "star"}
			if !agg.Star {
				agg.E = s.bind(e.L[0])
			}
			for i, g := range group.Aggs {
				if shown(g) == shown(agg) {
					return at(len(q.Group) + i)
				}
			}
			group.Aggs = append(group.Aggs, agg)
			return at(len(q.Group) + len(group.Aggs) - 1)
		}
		e.L = slices.Clone(e.L)
		for i := range e.L {
			e.L[i] = behind(e.L[i])
		}
		return e
	}
	project := api.Alg{Op: "project", Wide: len(q.Items)}
	var l []string
	for _, i := range q.Items {
		throw(i.Star, api.ErrUse)
		project.Es, l = append(project.Es, behind(i.E)), append(l, plainName(i))
	}
	filter := api.Alg{Op: "filter"}
	if q.Having.Op != "" {
		filter.E = behind(q.Having)
	}
	group.Wide = len(group.Es) + len(group.Aggs)
	throw(group.Wide > 64, api.ErrLong)
	throw(project.Wide > 64, api.ErrLong)
	project.L = []api.Alg{group}
	if q.Having.Op != "" {
		filter.Wide, filter.L = group.Wide, project.L
		project.L = []api.Alg{filter}
	}
	return project, l
}

// plainCheck lays each node anew, of what its Op has alone.
func plainCheck(a api.Alg, db []api.Cols) bool {
	parts, wide := 0, 0
	for _, x := range a.L {
		if !plainCheck(x, db) {
			return false
		}
		parts++
		wide += x.Wide
	}
	again := api.Alg{Op: a.Op, Wide: wide, L: a.L}
	es, wants := []api.Expr(nil), 1
	switch a.Op {
	case "scan":
		wants, again.Table, again.Wide = 0, a.Table, -1
		for _, t := range slices.Backward(db) {
			if t.Table == a.Table {
				again.Wide = len(t.L)
			}
		}
	case "one":
		wants = 0
	case "filter":
		again.E, es = a.E, []api.Expr{a.E}
	case "project":
		again.Es, es, again.Wide = a.Es, a.Es, len(a.Es)
	case "join":
		wants, again.Kind = 2, a.Kind
		if !slices.Contains(kinds(), a.Kind) {
			return false
		}
		if a.Kind != "cross" {
			again.E, es = a.E, []api.Expr{a.E}
		}
	case "group":
		again.Es, es, again.Wide = a.Es, slices.Clone(a.Es), len(a.Es)+len(a.Aggs)
		for _, g := range a.Aggs {
			if !slices.Contains(aggregates(), g.Name) || g.Star && g.Name != "count" {
				return false
			}
			if g.Star {
				g.E = api.Expr{}
			} else {
				es = append(es, g.E)
			}
			again.Aggs = append(again.Aggs, g)
		}
	case "distinct":
	case "put":
		wants, again.Kind = 2, a.Kind
		if !slices.Contains(puts(), a.Kind) || parts != 2 || a.L[0].Wide != a.L[1].Wide {
			return false
		}
		again.Wide = a.L[0].Wide
	case "sort":
		again.Keys = a.Keys
		for _, k := range a.Keys {
			es = append(es, k.E)
		}
	case "limit":
		again.N, again.Off = a.N, a.Off
	default:
		return false
	}
	bad := func(e api.Expr) bool { return eval.Check(e, wide) != api.OK }
	return parts == wants && again.Wide <= 64 && shown(a) == shown(again) && !slices.ContainsFunc(es, bad)
}
