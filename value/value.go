// Package value is layer 1: see shared/doc/01-value.md.
package value

import (
	"cmp"
	"slices"
	"strings"

	"boscage/api"
)

const mostValues = 64 // of a row

// Check tells whether a value may be.
func Check(v api.Value) api.Errno {
	if mayBe(v) {
		return api.OK
	}
	return api.ErrArg
}

func mayBe(v api.Value) bool {
	switch v.Kind {
	case api.Null:
		return v.I == 0 && v.S == ""
	case api.Bool:
		return (v.I == 0 || v.I == 1) && v.S == ""
	case api.Int:
		return v.S == ""
	case api.Text, api.Blob:
		return v.I == 0
	}
	return false
}

// CheckRow tells whether a row may be, and is not too long.
func CheckRow(r api.Row) api.Errno {
	for _, v := range r {
		if e := Check(v); e != api.OK {
			return e
		}
	}
	if len(r) > mostValues {
		return api.ErrLong
	}
	return api.OK
}

// Same tells whether all parts of two values are the same.
func Same(a, b api.Value) bool { return a == b }

// Compare tells how two values stand to one another.
//
// One rule serves for all kinds: of values that may be, I is the same wherever S tells, and S wherever I does.
func Compare(a, b api.Value) int {
	if c := cmp.Compare(a.Kind, b.Kind); c != 0 {
		return c
	}
	if c := cmp.Compare(a.I, b.I); c != 0 {
		return c
	}
	return strings.Compare(a.S, b.S)
}

// CompareRows tells how two rows stand to one another.
func CompareRows(a, b api.Row) int { return slices.CompareFunc(a, b, Compare) }
