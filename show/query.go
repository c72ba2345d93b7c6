package show

import (
	"strconv"
	"strings"

	"boscage/api"
)

func (w *writer) query(q api.Query) {
	if q.Op == "select" {
		w.selected(q.S)
	} else {
		w.put(q)
	}
	clauseOf(w, " ORDER BY ", q.Order, w.key)
	w.number(" LIMIT ", q.Limit)
	w.number(" OFFSET ", q.Offset)
}

// put writes queries that are put together.
func (w *writer) put(q api.Query) {
	words := strings.ToUpper(q.Op)
	if q.Op == "unionall" {
		words = "UNION ALL"
	}
	for i, part := range q.L {
		if i > 0 {
			w.say(" ", words, " ")
		}
		w.query(part)
	}
}

func (w *writer) key(k api.Key) {
	w.expr(k.E)
	w.may(k.Desc, " DESC")
}

// number writes one behind its word, if it is not below 0.
func (w *writer) number(word string, n int64) {
	if n >= 0 {
		w.say(word, strconv.FormatInt(n, 10))
	}
}

func (w *writer) selected(s api.Select) {
	w.say("SELECT ")
	w.may(s.Distinct, "DISTINCT ")
	listOf(w, s.Items, w.item)
	if s.From.Table != "" || s.From.Join != "" {
		w.say(" FROM ")
		w.from(s.From)
	}
	w.clause(" WHERE ", s.Where)
	clauseOf(w, " GROUP BY ", s.Group, w.expr)
	w.clause(" HAVING ", s.Having)
}

func (w *writer) item(i api.Item) {
	switch {
	case i.Star && i.Table != "":
		w.say(i.Table, ".*")
	case i.Star:
		w.say("*")
	default:
		w.expr(i.E)
	}
	if i.As != "" {
		w.say(" AS ", i.As)
	}
}

func (w *writer) from(f api.From) {
	if f.Join == "" {
		w.table(f)
		return
	}
	for i, part := range f.L {
		if i == 0 {
			w.from(part)
			continue
		}
		w.say(joinWords(f.Join))
		w.joined(part)
	}
	w.clause(" ON ", f.On)
}

func (w *writer) table(f api.From) {
	w.say(f.Table)
	if f.As != f.Table {
		w.say(" AS ", f.As)
	}
}

// joinWords are what stands between the parts of a join.
func joinWords(kind string) string {
	if kind == "inner" {
		return " JOIN "
	}
	return " " + strings.ToUpper(kind) + " JOIN "
}

// joined writes the second part of a join: without brackets its own joins would be read as ones of the whole.
func (w *writer) joined(f api.From) {
	if f.Join == "" {
		w.from(f)
		return
	}
	w.say("(")
	w.from(f)
	w.say(")")
}
