package stmt

import "boscage/api"

// parser reads a statement. Its methods that are named for a statement read on behind the word, or the words, that one begins with.
type parser struct {
	reader
	open int // brackets of FROM
}

// ways are how statements are read on, by a word.
type ways map[string]func() api.Stmt

// whole reads all tokens.
func (p *parser) whole() api.Stmt {
	s := p.begun(ways{
		"select": p.query,
		"insert": p.insert,
		"update": p.update,
		"delete": p.delete,
		"create": p.create,
		"drop":   p.drop,
		"begin":  p.begin, "commit": p.commit, "rollback": p.rollback,
	})
	p.takes(";")
	if p.next().Kind != api.TEnd {
		p.fails(api.ErrSyntax)
	}
	return s
}

// begun reads on in the way of the word that comes.
func (p *parser) begun(by ways) api.Stmt {
	t := p.next()
	way := by[t.S]
	if t.Kind != api.TWord || way == nil {
		p.fails(api.ErrSyntax)
		return api.Stmt{}
	}
	p.at++
	return way()
}

func (p *parser) begin() api.Stmt    { return api.Stmt{Op: "begin"} }
func (p *parser) commit() api.Stmt   { return api.Stmt{Op: "commit"} }
func (p *parser) rollback() api.Stmt { return api.Stmt{Op: "rollback"} }

func (p *parser) insert() api.Stmt {
	s := api.Stmt{Op: "insert"}
	p.want("into")
	s.Table = p.name()
	if stands(p.next(), "(") {
		s.Names = p.names()
	}
	p.want("values")
	s.Rows = listOf(&p.reader, p.row)
	return s
}

func (p *parser) names() []string { return bracketed(&p.reader, p.name) }
func (p *parser) row() []api.Expr { return bracketed(&p.reader, p.expr) }

func (p *parser) update() api.Stmt {
	s := api.Stmt{Op: "update", Table: p.name()}
	p.want("set")
	s.Sets = listOf(&p.reader, p.set)
	s.Where = p.clause("where")
	return s
}

func (p *parser) set() api.Set {
	name := p.name()
	p.want("=")
	return api.Set{Name: name, E: p.expr()}
}

func (p *parser) delete() api.Stmt {
	p.want("from")
	table := p.name()
	return api.Stmt{Op: "delete", Table: table, Where: p.clause("where")}
}

func (p *parser) create() api.Stmt {
	return p.begun(ways{"table": p.createTable, "index": p.createIndex, "unique": p.createUnique})
}

func (p *parser) drop() api.Stmt {
	return p.begun(ways{"table": p.dropTable, "index": p.dropIndex})
}

func (p *parser) dropTable() api.Stmt { return api.Stmt{Op: "drop", Table: p.name()} }
func (p *parser) dropIndex() api.Stmt { return api.Stmt{Op: "unindex", Index: p.name()} }

func (p *parser) createUnique() api.Stmt {
	p.want("index")
	s := p.createIndex()
	s.Unique = true
	return s
}

func (p *parser) createIndex() api.Stmt {
	s := api.Stmt{Op: "index", Index: p.name()}
	p.want("on")
	s.Table = p.name()
	s.Names = p.names()
	return s
}

func (p *parser) createTable() api.Stmt {
	s := api.Stmt{Op: "create", Table: p.name()}
	s.Cols = bracketed(&p.reader, p.column)
	return s
}

func (p *parser) column() api.ColDef {
	c := api.ColDef{Name: p.name()}
	c.Type = p.kind()
	for {
		switch {
		case !c.NotNull && p.takes("not", "null"):
			c.NotNull = true
		case !c.Unique && p.takes("unique"):
			c.Unique = true
		case !c.Primary && p.takes("primary", "key"):
			c.Primary = true
		default:
			return c
		}
	}
}

// kind reads the word of a column's type.
func (p *parser) kind() int {
	switch {
	case p.takes("int"):
		return api.Int
	case p.takes("text"):
		return api.Text
	case p.takes("bool"):
		return api.Bool
	case p.takes("blob"):
		return api.Blob
	}
	p.fails(api.ErrSyntax)
	return 0
}
