package show

import (
	"strings"

	"boscage/api"
	"boscage/expr"
)

// writer writes statements and their parts.
type writer struct {
	strings.Builder
}

// say writes pieces, one behind the other.
func (w *writer) say(pieces ...string) {
	for _, piece := range pieces {
		w.WriteString(piece)
	}
}

// may writes a piece, if it is so.
func (w *writer) may(is bool, piece string) {
	if is {
		w.say(piece)
	}
}

func (w *writer) name(name string) { w.say(name) }

func (w *writer) expr(e api.Expr) {
	text, _ := expr.Text(e) // empty, if the expression is none
	w.say(text)
}

// clause writes an expression behind its word, if there is one.
func (w *writer) clause(word string, e api.Expr) {
	if e.Op != "" {
		w.say(word)
		w.expr(e)
	}
}

// listOf writes all of a list, with `, ` between.
func listOf[T any](w *writer, l []T, one func(T)) {
	for i, x := range l {
		w.may(i > 0, ", ")
		one(x)
	}
}

// clauseOf writes a list behind its words, if it has any elements.
func clauseOf[T any](w *writer, words string, l []T, one func(T)) {
	w.may(len(l) > 0, words)
	listOf(w, l, one)
}

func bracketed[T any](w *writer, l []T, one func(T)) {
	w.say("(")
	listOf(w, l, one)
	w.say(")")
}
