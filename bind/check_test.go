package bind_test

import (
	"slices"
	"strconv"
	"testing"

	"boscage/api"
	"boscage/rows"
)

// over puts a node on others, so wide.
func over(a api.Alg, wide int, l ...api.Alg) api.Alg {
	a.Wide, a.L = wide, l
	return a
}

func none() api.Alg { return api.Alg{Op: "one"} }

func scan(name string) api.Alg {
	i := slices.IndexFunc(tables(), func(c api.Cols) bool { return c.Table == name })
	return api.Alg{Op: "scan", Table: name, Wide: len(tables()[i].L)}
}

// some are nodes of each Op, that may be.
func some() []api.Alg {
	t, u := scan("t"), scan("u")
	l := []api.Alg{none(), t, u, scan("w"), scan("z"), over(api.Alg{Op: "distinct"}, 2, t), over(api.Alg{Op: "distinct"}, 0, none()),
		over(api.Alg{Op: "filter", E: op("=", at(0), at(1))}, 2, t), over(api.Alg{Op: "filter", E: lit(null())}, 0, none()),
		over(api.Alg{Op: "project", Es: []api.Expr{at(1), lit(num(7)), at(0)}}, 3, t), over(api.Alg{Op: "project"}, 0, t),
		over(api.Alg{Op: "group"}, 0, t), over(api.Alg{Op: "group", Es: []api.Expr{at(1), at(1)}}, 2, t),
		over(api.Alg{Op: "group", Es: []api.Expr{at(1)}, Aggs: []api.Agg{{Name: "count", Star: true}, {Name: "count", E: at(0)}, {Name: "sum", E: at(1)}, {Name: "min", E: lit(null())}, {Name: "max", E: op("neg", at(0))}}}, 6, t),
		over(api.Alg{Op: "sort", Keys: []api.Key{{E: at(1), Desc: true}, {E: op("+", at(0), at(0))}}}, 2, t), over(api.Alg{Op: "sort"}, 2, t),
		over(api.Alg{Op: "limit", N: 3, Off: 2}, 2, t), over(api.Alg{Op: "limit", N: -1}, 2, t), over(api.Alg{Op: "limit", N: least, Off: most}, 2, t), over(api.Alg{Op: "limit"}, 0, none())}
	for _, kind := range kinds() {
		join := api.Alg{Op: "join", Kind: kind}
		if kind != "cross" {
			join.E = op("=", at(1), at(3))
		}
		l = append(l, over(join, 4, t, u), over(api.Alg{Op: "distinct"}, 4, over(join, 4, t, u)))
	}
	for _, kind := range puts() {
		l = append(l, over(api.Alg{Op: "put", Kind: kind}, 2, t, u), over(api.Alg{Op: "put", Kind: kind}, 0, none(), scan("z")))
	}
	return l
}

// P12.3: what may be, and nothing with one thing more or less.
func TestCheckNodes(t *testing.T) {
	for _, a := range some() {
		checks(t, a, tables(), true)
		for _, wide := range []int{a.Wide - 1, a.Wide + 1, -a.Wide - 1, 64 + a.Wide, most, least} {
			x := a
			x.Wide = wide
			checks(t, x, tables(), false)
		}
		x := a
		x.L = append(slices.Clone(a.L), none())
		checks(t, x, tables(), false)
		for i := range a.L {
			x.L = slices.Delete(slices.Clone(a.L), i, i+1)
			checks(t, x, tables(), false)
			for _, bad := range []api.Alg{{}, {Op: "one", Wide: 1}, scan("x"), {Op: "scan", Table: "v", Wide: 2}, {Op: "Scan", Table: "t", Wide: 2}} {
				x.L = slices.Clone(a.L)
				x.L[i] = bad
				checks(t, x, tables(), false)
			}
		}
		for _, o := range []string{"", "Filter", "select", "rows", "then", "union", "inner", "scan ", "\x00"} {
			x := a
			x.Op = o
			checks(t, x, tables(), false)
		}
	}
}

// P12.3: no more is set than the Op has.
func TestCheckMore(t *testing.T) {
	for field, has := range map[string]struct {
		set func(a *api.Alg)
		ops []string
	}{
		"Table": {func(a *api.Alg) { a.Table = "t" }, []string{"scan"}},
		"Kind":  {func(a *api.Alg) { a.Kind = "inner" }, []string{"join", "put"}},
		"E":     {func(a *api.Alg) { a.E = lit(num(1)) }, []string{"filter", "join"}},
		"E.V":   {func(a *api.Alg) { a.E.V = num(0) }, []string{"filter", "join"}},
		"E.L":   {func(a *api.Alg) { a.E.L = []api.Expr{{}} }, []string{"filter", "join"}},
		"Es":    {func(a *api.Alg) { a.Es = []api.Expr{lit(null())} }, []string{"project", "group"}},
		"Aggs":  {func(a *api.Alg) { a.Aggs = []api.Agg{{Name: "count", Star: true}} }, []string{"group"}},
		"Keys":  {func(a *api.Alg) { a.Keys = []api.Key{{E: lit(null())}} }, []string{"sort"}},
		"N":     {func(a *api.Alg) { a.N = 1 }, []string{"limit"}},
		"N -1":  {func(a *api.Alg) { a.N = -1 }, []string{"limit"}},
		"Off":   {func(a *api.Alg) { a.Off = -1 }, []string{"limit"}},
	} {
		for _, a := range some() {
			if slices.Contains(has.ops, a.Op) && a.Kind != "cross" {
				continue
			}
			if a.Kind == "cross" && field == "Kind" {
				continue
			}
			has.set(&a)
			checks(t, a, tables(), false)
		}
	}
	for _, a := range some() { // lists without elements are no more
		a.Es, a.Aggs, a.Keys, a.L = append([]api.Expr{}, a.Es...), append([]api.Agg{}, a.Aggs...), append([]api.Key{}, a.Keys...), append([]api.Alg{}, a.L...)
		a.E.L = append([]api.Expr{}, a.E.L...)
		checks(t, a, tables(), true)
	}
}

// P12.3: a scan is of the first of its name, at the most 64 wide.
func TestCheckScan(t *testing.T) {
	for _, wide := range []int{0, 1, 2, 3, 4} {
		checks(t, api.Alg{Op: "scan", Table: "t", Wide: wide}, tables(), wide == 2)
	}
	checks(t, api.Alg{Op: "scan", Table: "v"}, tables(), false)
	checks(t, api.Alg{Op: "scan"}, tables(), false)
	checks(t, api.Alg{Op: "scan", Table: "t", Wide: 2}, nil, false)
	checks(t, scan("w"), tables(), true)
	checks(t, scan("x"), tables(), false)
	checks(t, scan("z"), tables(), true)
	checks(t, api.Alg{Op: "scan", Table: "t", Wide: 2}, slices.Insert(tables(), 0, cols("t", "a")), false)
}

// P12.3: 64 wide at the most.
func TestCheckWide(t *testing.T) {
	h, o, w := scan("h"), scan("o"), scan("w")
	cross := api.Alg{Op: "join", Kind: "cross"}
	checks(t, over(cross, 64, h, h), tables(), true)
	checks(t, over(cross, 65, w, o), tables(), false)
	checks(t, over(cross, 65, over(cross, 64, h, h), o), tables(), false)
	checks(t, over(api.Alg{Op: "join", Kind: "left", E: at(0)}, 96, w, h), tables(), false)
	for _, many := range []int{63, 64, 65} {
		es := slices.Repeat([]api.Expr{at(0)}, many)
		checks(t, over(api.Alg{Op: "project", Es: es}, many, o), tables(), many <= 64)
		checks(t, over(api.Alg{Op: "group", Es: es}, many, o), tables(), many <= 64)
		checks(t, over(api.Alg{Op: "group", Es: es[1:], Aggs: []api.Agg{{Name: "min", E: at(0)}}}, many, o), tables(), many <= 64)
		checks(t, over(api.Alg{Op: "group", Aggs: slices.Repeat([]api.Agg{{Name: "count", Star: true}}, many)}, many, o), tables(), many <= 64)
		checks(t, over(api.Alg{Op: "sort", Keys: slices.Repeat([]api.Key{{E: at(0)}}, many)}, 1, o), tables(), true)
	}
	for _, kind := range puts() {
		checks(t, over(api.Alg{Op: "put", Kind: kind}, 1, o, scan("t")), tables(), false)
		checks(t, over(api.Alg{Op: "put", Kind: kind}, 2, o, scan("t")), tables(), false)
		checks(t, over(api.Alg{Op: "put", Kind: kind}, 2, scan("t"), o), tables(), false)
		checks(t, over(api.Alg{Op: "put", Kind: kind}, 4, scan("t"), scan("t")), tables(), false)
		checks(t, over(api.Alg{Op: "put", Kind: kind}, 64, w, w), tables(), true)
	}
}

// P12.3: expressions are bound within what they are of, a join's within both.
func TestCheckBound(t *testing.T) {
	bad := []api.Expr{{}, at(-1), at(2), col("a"), star(), call("count", star()), call("max", at(0)), op("neg"), op("neg", at(2)), op("+", at(0), col("b")), lit(api.Value{Kind: 9}), {Op: "at", V: num(0), Name: "a"}, {Op: "at"}, nested("neg", 40, at(0)), op("x", at(0))}
	good := []api.Expr{at(0), at(1), lit(null()), op("neg", at(1)), call("none", at(0)), nested("neg", 39, at(0))}
	nodes := func(e api.Expr) []api.Alg {
		l := []api.Alg{over(api.Alg{Op: "filter", E: e}, 2, scan("t")), over(api.Alg{Op: "project", Es: []api.Expr{at(0), e}}, 2, scan("t")), over(api.Alg{Op: "group", Es: []api.Expr{at(1), e}}, 2, scan("t")), over(api.Alg{Op: "sort", Keys: []api.Key{{E: at(0)}, {E: e}}}, 2, scan("t"))}
		for _, name := range aggregates() {
			l = append(l, over(api.Alg{Op: "group", Es: []api.Expr{at(0)}, Aggs: []api.Agg{{Name: "count", Star: true}, {Name: name, E: e}}}, 3, scan("t")))
		}
		for _, kind := range kinds()[:4] {
			l = append(l, over(api.Alg{Op: "join", Kind: kind, E: e}, 2, scan("o"), scan("o")), over(api.Alg{Op: "join", Kind: kind, E: e}, 2, scan("t"), none()))
		}
		return l
	}
	for _, e := range good {
		for _, a := range nodes(e) {
			checks(t, a, tables(), true)
			checks(t, over(api.Alg{Op: "distinct"}, a.Wide, a), tables(), true)
		}
	}
	for _, e := range bad {
		for _, a := range nodes(e) {
			checks(t, a, tables(), false)
			checks(t, over(api.Alg{Op: "distinct"}, a.Wide, a), tables(), false)
		}
	}
	project := over(api.Alg{Op: "project", Es: []api.Expr{at(0), at(0), at(0)}}, 3, scan("o")) // of what it works on, not of its own
	checks(t, project, tables(), true)
	checks(t, over(api.Alg{Op: "filter", E: at(2)}, 3, project), tables(), true)
	checks(t, over(api.Alg{Op: "filter", E: at(3)}, 3, project), tables(), false)
	checks(t, over(api.Alg{Op: "project", Es: []api.Expr{at(1), at(0), at(0)}}, 3, scan("o")), tables(), false)
	checks(t, over(api.Alg{Op: "group", Es: []api.Expr{at(1), at(0)}}, 2, scan("o")), tables(), false)
	checks(t, over(api.Alg{Op: "join", Kind: "left", E: at(3)}, 4, scan("t"), scan("u")), tables(), true)
	checks(t, over(api.Alg{Op: "join", Kind: "left", E: at(4)}, 4, scan("t"), scan("u")), tables(), false)
	checks(t, over(api.Alg{Op: "join", Kind: "cross", E: lit(yes())}, 4, scan("t"), scan("u")), tables(), false)
}

// P12.3: Kinds and aggregates are those that rows takes.
func TestCheckAsRows(t *testing.T) {
	words := slices.Concat(kinds(), puts(), aggregates(), []string{"", "outer", "Inner", "LEFT", "minus", "union all", "avg", "Count", "counts", "scan", "one", "group", "\x00"})
	for _, word := range words {
		_, err := rows.Join(word, nil, nil, 2, 2, at(0))
		join := api.Alg{Op: "join", Kind: word, E: at(0)}
		if word == "cross" {
			join.E = api.Expr{}
		}
		checks(t, over(join, 4, scan("t"), scan("u")), tables(), err == api.OK)
		_, err = rows.Put(word, nil, nil)
		checks(t, over(api.Alg{Op: "put", Kind: word}, 2, scan("t"), scan("u")), tables(), err == api.OK)
		for _, star := range []bool{false, true} {
			agg := api.Agg{Name: word, Star: star, E: at(0)}
			_, err = rows.Group(nil, nil, []api.Agg{agg})
			if star {
				checks(t, over(api.Alg{Op: "group", Aggs: []api.Agg{agg}}, 1, scan("t")), tables(), false)
				agg.E = api.Expr{}
			}
			checks(t, over(api.Alg{Op: "group", Aggs: []api.Agg{agg}}, 1, scan("t")), tables(), err == api.OK)
		}
	}
}

// P12.3: a fault is found wherever it is.
func TestCheckDeep(t *testing.T) {
	good, bad := none(), api.Alg{Op: "one", Wide: 1}
	for i := range 1000 {
		good, bad = over(api.Alg{Op: "limit", N: int64(i)}, 0, good), over(api.Alg{Op: "limit", N: int64(i)}, 0, bad)
		if i%3 == 0 {
			good = over(api.Alg{Op: "put", Kind: "union"}, 0, none(), good)
			bad = over(api.Alg{Op: "put", Kind: "union"}, 0, none(), bad)
		}
		if i%50 == 0 {
			t.Run(strconv.Itoa(i), func(t *testing.T) {
				checks(t, good, tables(), true)
				checks(t, bad, tables(), false)
			})
		}
	}
}
