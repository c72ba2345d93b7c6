package expr

import (
	"slices"
	"strconv"

	"boscage/api"
)

// Cols are an expression's columns, from the left, each once.
func Cols(e api.Expr) []api.Expr {
	var f finder
	f.seen = map[string]int{}
	f.find(e)
	return f.found
}

// finder keeps the columns that were found, and their keys.
type finder struct {
	found []api.Expr
	seen  map[string]int
}

func (f *finder) find(e api.Expr) {
	if e.Op == "col" {
		key := string(appendKey(nil, e))
		f.seen[key]++
		if f.seen[key] == 1 {
			f.found = append(f.found, copied(e))
		}
	}
	for _, part := range e.L {
		f.find(part)
	}
}

// appendKey writes what two expressions have in common just if they are the same. Each text has its length ahead, so that none runs into the next one.
func appendKey(b []byte, e api.Expr) []byte {
	for _, s := range [...]string{e.Op, e.V.S, e.Table, e.Name} {
		b = appendNumber(b, int64(len(s)))
		b = append(b, s...)
	}
	b = appendNumber(b, int64(e.V.Kind))
	b = appendNumber(b, e.V.I)
	b = appendNumber(b, int64(len(e.L)))
	for _, part := range e.L {
		b = appendKey(b, part)
	}
	return b
}

func appendNumber(b []byte, i int64) []byte {
	return append(strconv.AppendInt(b, i, 10), ' ')
}

// copied is an expression in memory of its own.
func copied(e api.Expr) api.Expr {
	e.L = slices.Clone(e.L)
	for i, part := range e.L {
		e.L[i] = copied(part)
	}
	return e
}
