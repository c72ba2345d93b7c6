package rows

import (
	"slices"

	"boscage/api"
)

// Distinct tells each row once.
func Distinct(l []api.Row) []api.Row {
	var out []api.Row
	seen := map[string]struct{}{}
	for _, r := range l {
		s := text(r)
		if _, ok := seen[s]; !ok {
			seen[s] = struct{}{}
			out = append(out, joined(r))
		}
	}
	return out
}

// Put puts two lists together, as a set's operation does.
func Put(op string, a, b []api.Row) ([]api.Row, api.Errno) {
	switch op {
	case "unionall":
		return copied(slices.Concat(a, b)), api.OK
	case "union":
		return Distinct(slices.Concat(a, b)), api.OK
	case "intersect":
		return Distinct(chosen(a, b, true)), api.OK
	case "except":
		return Distinct(chosen(a, b, false)), api.OK
	}
	return nil, api.ErrArg
}

// chosen is a's rows that are in b, or those that are not.
func chosen(a, b []api.Row, in bool) []api.Row {
	there := map[string]struct{}{}
	for _, r := range b {
		there[text(r)] = struct{}{}
	}
	var out []api.Row
	for _, r := range a {
		if _, ok := there[text(r)]; ok == in {
			out = append(out, r)
		}
	}
	return out
}
