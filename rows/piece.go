package rows

import (
	"slices"
	"strings"

	"boscage/api"
	"boscage/value"
)

// joined is a row made of pieces, one behind the other, in memory of its own.
func joined(pieces ...api.Row) api.Row { return slices.Concat(pieces...) }

// copied is rows in memory of their own.
func copied(l []api.Row) []api.Row {
	out := make([]api.Row, len(l))
	for i, r := range l {
		out[i] = joined(r)
	}
	return out
}

// text tells rows apart. (value.RowText does as well, but not those of more than 64 values.)
func text(r api.Row) string {
	var b strings.Builder
	for _, v := range r {
		s, _ := value.Text(v)
		b.WriteString(s)
		b.WriteByte(',')
	}
	return b.String()
}
