package bind

import (
	"slices"

	"boscage/api"
)

// column is one of a scope: its name, and its table's, if it has one. What is nobody's no col means, whatever its name is.
type column struct {
	table, name string
	nobodys     bool
}

// told is a column of a query's rows, which are of no table.
func told(name string) column { return column{name: name, nobodys: name == ""} }

// scope is columns, one for each of a row's values.
type scope []column

// scopeOf is a table's columns, by the name that the table goes by.
func scopeOf(t api.Cols, as string) scope {
	s := make(scope, len(t.L))
	for i, c := range t.L {
		s[i] = column{table: as, name: c.Name}
	}
	return s
}

func (s scope) names() []string {
	l := make([]string, len(s))
	for i, c := range s {
		l[i] = c.name
	}
	return l
}

// place is that of the only column that a col means.
func (s scope) place(col api.Expr) (int, api.Errno) {
	means := func(c column) bool {
		return !c.nobodys && c.name == col.Name && (col.Table == "" || c.table == col.Table)
	}
	first := slices.IndexFunc(s, means)
	if first < 0 || slices.ContainsFunc(s[first+1:], means) {
		return 0, api.ErrName
	}
	return first, api.OK
}

// places are those of a table's columns; of no table those of all.
func (s scope) places(table string) []int {
	var l []int
	for i, c := range s {
		if table == "" || c.table == table {
			l = append(l, i)
		}
	}
	return l
}

// sharesTable tells whether a table has columns in both.
func (s scope) sharesTable(other scope) bool {
	return slices.ContainsFunc(s, func(c column) bool {
		return slices.ContainsFunc(other, func(o column) bool { return o.table == c.table })
	})
}

// bound is an expression with places where it has cols.
func (s scope) bound(e api.Expr) (api.Expr, api.Errno) {
	return turned(e, func(part api.Expr) (api.Expr, bool, api.Errno) {
		switch {
		case part.Op == "col":
			place, err := s.place(part)
			return at(place), true, err
		case part.Op == "star", isAggregate(part):
			return api.Expr{}, false, api.ErrUse
		}
		return api.Expr{}, false, api.OK
	})
}
