package value

import (
	"strconv"
	"strings"

	"boscage/api"
)

const digits = "0123456789abcdef"

// Text writes a value.
func Text(v api.Value) (string, api.Errno) {
	if e := Check(v); e != api.OK {
		return "", e
	}
	var w writer
	w.value(v)
	return w.String(), api.OK
}

// RowText writes a row.
func RowText(r api.Row) (string, api.Errno) {
	if e := CheckRow(r); e != api.OK {
		return "", e
	}
	var w writer
	w.row(r)
	return w.String(), api.OK
}

// writer writes values that may be.
type writer struct {
	strings.Builder
}

func (w *writer) row(r api.Row) {
	w.WriteByte('(')
	for i, v := range r {
		if i > 0 {
			w.WriteString(", ")
		}
		w.value(v)
	}
	w.WriteByte(')')
}

func (w *writer) value(v api.Value) {
	switch v.Kind {
	case api.Null:
		w.WriteString("NULL")
	case api.Bool:
		w.truth(v.I == 1)
	case api.Int:
		w.WriteString(strconv.FormatInt(v.I, 10))
	case api.Text:
		w.text(v.S)
	case api.Blob:
		w.blob(v.S)
	}
}

func (w *writer) truth(b bool) {
	if b {
		w.WriteString("TRUE")
	} else {
		w.WriteString("FALSE")
	}
}

func (w *writer) text(s string) {
	w.WriteByte('\'')
	w.WriteString(strings.ReplaceAll(s, "'", "''"))
	w.WriteByte('\'')
}

func (w *writer) blob(s string) {
	w.WriteString("x'")
	for i := range len(s) {
		w.WriteByte(digits[s[i]>>4])
		w.WriteByte(digits[s[i]&15])
	}
	w.WriteByte('\'')
}
