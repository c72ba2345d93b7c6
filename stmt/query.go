package stmt

import "boscage/api"

func (p *parser) query() api.Stmt {
	q := p.single()
	for op := p.put(); op != ""; op = p.put() {
		p.want("select")
		q = api.Query{Op: op, L: []api.Query{q, p.single()}, Limit: -1, Offset: -1}
	}
	if p.takes("order", "by") {
		q.Order = listOf(&p.reader, p.key)
	}
	if p.takes("limit") {
		q.Limit = p.number()
		if p.takes("offset") {
			q.Offset = p.number()
		}
	}
	return api.Stmt{Op: "select", Q: q}
}

// put reads how two queries are put together, if there is another one.
func (p *parser) put() string {
	switch {
	case p.takes("union"):
		if p.takes("all") {
			return "unionall"
		}
		return "union"
	case p.takes("intersect"):
		return "intersect"
	case p.takes("except"):
		return "except"
	}
	return ""
}

func (p *parser) key() api.Key {
	k := api.Key{E: p.expr()}
	k.Desc = !p.takes("asc") && p.takes("desc")
	return k
}

// single reads a query of one SELECT, behind that word.
func (p *parser) single() api.Query {
	var s api.Select
	s.Distinct = !p.takes("all") && p.takes("distinct")
	s.Items = listOf(&p.reader, p.item)
	if p.takes("from") {
		s.From = p.from()
	}
	s.Where = p.clause("where")
	if p.takes("group", "by") {
		s.Group = listOf(&p.reader, p.expr)
	}
	s.Having = p.clause("having")
	return api.Query{Op: "select", S: s, Limit: -1, Offset: -1}
}

func (p *parser) item() api.Item {
	if p.takes("*") {
		return api.Item{Star: true}
	}
	if table := p.tableOfStar(); table != "" {
		return api.Item{Star: true, Table: table}
	}
	e := p.expr()
	return api.Item{E: e, As: p.as()}
}

// tableOfStar steps over a name, `.` and `*`, if all three are there: what begins with a name may be an expression as well.
func (p *parser) tableOfStar() string {
	first := p.at
	table := p.takesName()
	if table != "" && p.takes(".") && p.takes("*") {
		return table
	}
	p.at = first
	return ""
}

func (p *parser) from() api.From {
	f := p.joined()
	for p.takes(",") {
		f = api.From{Join: "cross", L: []api.From{f, p.joined()}}
	}
	return f
}

func (p *parser) joined() api.From {
	f := p.one()
	for kind := p.join(); kind != ""; kind = p.join() {
		f = api.From{Join: kind, L: []api.From{f, p.one()}}
		if kind != "cross" {
			p.want("on")
			f.On = p.expr()
		}
	}
	return f
}

// join reads the words of a join, and tells its kind, if there is one.
func (p *parser) join() string {
	switch {
	case p.takes("cross", "join"):
		return "cross"
	case p.takes("inner", "join"), p.takes("join"):
		return "inner"
	}
	for _, kind := range [...]string{"left", "right", "full"} {
		if p.takes(kind) {
			p.takes("outer")
			p.want("join")
			return kind
		}
	}
	return ""
}

// one reads a table, or what stands in brackets.
func (p *parser) one() api.From {
	if stands(p.next(), "(") {
		return p.within()
	}
	f := api.From{Table: p.name()}
	f.As = p.as()
	if f.As == "" {
		f.As = f.Table
	}
	return f
}

func (p *parser) within() api.From {
	if p.open == api.MaxDeep {
		p.fails(api.ErrDeep)
		return api.From{}
	}
	p.open++
	p.want("(")
	f := p.from()
	p.want(")")
	p.open--
	return f
}
