package show_test

import (
	"fmt"
	"testing"

	"boscage/api"
	"boscage/expr"
	"boscage/show"
	"boscage/stmt"
)

// The parts that statements are made of.
func num(i int64) api.Expr           { return api.Expr{Op: "lit", V: api.Value{Kind: api.Int, I: i}} }
func col(name string) api.Expr       { return api.Expr{Op: "col", Name: name} }
func table(name string) api.From     { return api.From{Table: name, As: name} }
func as(name, other string) api.From { return api.From{Table: name, As: other} }
func cross(a, b api.From) api.From   { return api.From{Join: "cross", L: []api.From{a, b}} }
func join(kind string, a, b api.From, on api.Expr) api.From {
	return api.From{Join: kind, L: []api.From{a, b}, On: on}
}
func items(l ...api.Expr) []api.Item {
	var out []api.Item
	for _, e := range l {
		out = append(out, api.Item{E: e})
	}
	return out
}
func one(s api.Select) api.Query { return api.Query{Op: "select", S: s, Limit: -1, Offset: -1} }
func put(op string, a, b api.Query) api.Query {
	return api.Query{Op: op, L: []api.Query{a, b}, Limit: -1, Offset: -1}
}
func asked(q api.Query) api.Stmt { return api.Stmt{Op: "select", Q: q} }

// selectedFrom is the statement whose text ends with that of its FROM.
func selectedFrom(f api.From) api.Stmt {
	return asked(one(api.Select{Items: items(col("a")), From: f}))
}

// ex is the expression that a text is.
func ex(s string) api.Expr {
	e, _, err := expr.Parse(s)
	if err != api.OK {
		panic(s)
	}
	return e
}

// shown is all of a statement, as a test tells it: lists without elements alike.
func shown(s api.Stmt) string { return fmt.Sprintf("%+v", s) }

// read is the statement that a text is.
func read(t *testing.T, s string) api.Stmt {
	t.Helper()
	got, place, err := stmt.Parse(s)
	if err != api.OK {
		t.Fatalf("%.300q: %d at %d", s, err, place)
	}
	return got
}

// writes asks whether a statement is written so, and is read again.
func writes(t *testing.T, s api.Stmt, want string) {
	t.Helper()
	before := shown(s)
	if got := show.Text(s); got != want {
		t.Fatalf("got %.600q, want %.600q", got, want)
	}
	if after := shown(s); after != before {
		t.Fatalf("%s was changed to %s", before, after)
	}
	if len(want) > api.MaxText {
		return
	}
	if again := read(t, want); shown(again) != before || !stmt.Same(again, s) {
		t.Fatalf("%.600q: read again as %s, not as %s", want, shown(again), before)
	}
}

// rewrites asks whether the statement of each text is written as the other text, and so is the one of that.
func rewrites(t *testing.T, texts map[string]string) {
	t.Helper()
	for s, want := range texts {
		writes(t, read(t, s), want)
		writes(t, read(t, want), want)
	}
}
