package show

import (
	"strings"

	"boscage/api"
)

func (w *writer) stmt(s api.Stmt) {
	switch s.Op {
	case "select":
		w.query(s.Q)
	case "insert":
		w.insert(s)
	case "update":
		w.say("UPDATE ", s.Table, " SET ")
		listOf(w, s.Sets, w.set)
		w.clause(" WHERE ", s.Where)
	case "delete":
		w.say("DELETE FROM ", s.Table)
		w.clause(" WHERE ", s.Where)
	case "create":
		w.say("CREATE TABLE ", s.Table, " ")
		bracketed(w, s.Cols, w.column)
	case "drop":
		w.say("DROP TABLE ", s.Table)
	case "index":
		w.index(s)
	case "unindex":
		w.say("DROP INDEX ", s.Index)
	case "begin", "commit", "rollback":
		w.say(strings.ToUpper(s.Op))
	}
}

func (w *writer) insert(s api.Stmt) {
	w.say("INSERT INTO ", s.Table, " ")
	if len(s.Names) > 0 {
		bracketed(w, s.Names, w.name)
		w.say(" ")
	}
	w.say("VALUES ")
	listOf(w, s.Rows, w.row)
}

func (w *writer) row(l []api.Expr) { bracketed(w, l, w.expr) }

func (w *writer) set(s api.Set) {
	w.say(s.Name, " = ")
	w.expr(s.E)
}

func (w *writer) column(c api.ColDef) {
	w.say(c.Name, " ", Type(c.Type))
	w.may(c.NotNull, " NOT NULL")
	w.may(c.Unique, " UNIQUE")
	w.may(c.Primary, " PRIMARY KEY")
}

func (w *writer) index(s api.Stmt) {
	w.say("CREATE ")
	w.may(s.Unique, "UNIQUE ")
	w.say("INDEX ", s.Index, " ON ", s.Table, " ")
	bracketed(w, s.Names, w.name)
}
