package expr

import (
	"strings"

	"boscage/api"
	"boscage/value"
)

// Text writes an expression.
func Text(e api.Expr) (string, api.Errno) {
	if err := Check(e); err != api.OK {
		return "", err
	}
	var w writer
	w.expr(e)
	return w.String(), api.OK
}

// writer writes expressions that may be.
type writer struct {
	strings.Builder
}

func (w *writer) expr(e api.Expr) {
	switch e.Op {
	case "lit":
		s, _ := value.Text(e.V)
		w.WriteString(s)
	case "col":
		w.col(e)
	case "star":
		w.WriteByte('*')
	case "call":
		w.WriteString(e.Name)
		w.list(e.L)
	case "neg":
		w.WriteByte('-')
		w.list(e.L)
	case "not":
		w.WriteString("NOT ")
		w.part(e.L[0])
	case "isnull":
		w.part(e.L[0])
		w.WriteString(" IS NULL")
	case "notnull":
		w.part(e.L[0])
		w.WriteString(" IS NOT NULL")
	case "in":
		w.part(e.L[0])
		w.WriteString(" IN ")
		w.list(e.L[1:])
	case "between":
		w.parts(e.L, " BETWEEN ", " AND ")
	default:
		w.parts(e.L, " "+strings.ToUpper(e.Op)+" ")
	}
}

func (w *writer) col(e api.Expr) {
	if e.Table != "" {
		w.WriteString(e.Table)
		w.WriteByte('.')
	}
	w.WriteString(e.Name)
}

// list writes expressions within brackets, which set them apart well enough.
func (w *writer) list(l []api.Expr) {
	w.WriteByte('(')
	for i, e := range l {
		if i > 0 {
			w.WriteString(", ")
		}
		w.expr(e)
	}
	w.WriteByte(')')
}

// parts writes parts with what stands between each and the next one.
func (w *writer) parts(l []api.Expr, between ...string) {
	for i, e := range l {
		if i > 0 {
			w.WriteString(between[i-1])
		}
		w.part(e)
	}
}

func (w *writer) part(e api.Expr) {
	if standsAlone(e) {
		w.expr(e)
	} else {
		w.list([]api.Expr{e})
	}
}

func standsAlone(e api.Expr) bool {
	switch e.Op {
	case "lit":
		return e.V.Kind != api.Int || e.V.I >= 0
	case "col", "call":
		return true
	}
	return false
}
