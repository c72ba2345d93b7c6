package rows

import "boscage/api"

const mostValues = 64 // of a row

// Join tells which rows of two lists go together.
func Join(kind string, a, b []api.Row, wa, wb int, on api.Expr) ([]api.Row, api.Errno) {
	left, right, ok := sidesOf(kind)
	if !ok {
		return nil, api.ErrArg
	}
	if kind == "cross" {
		on = always()
	}
	var out []api.Row
	went := make([]bool, len(b))
	for _, x := range a {
		alone := true
		for i, y := range b {
			both := joined(x, y)
			is, err := Truth(on, both)
			if err != api.OK {
				return nil, err
			}
			if is {
				out = append(out, both)
				alone, went[i] = false, true
			}
		}
		if alone && left {
			out = append(out, joined(x, nulls(wb)))
		}
	}
	for i, y := range b {
		if right && !went[i] {
			out = append(out, joined(nulls(wa), y))
		}
	}
	return out, api.OK
}

// sidesOf tells the sides of which a kind of join keeps also the rows that go with none, and whether there is that kind.
func sidesOf(kind string) (left, right, ok bool) {
	switch kind {
	case "inner", "cross":
		return false, false, true
	case "left":
		return true, false, true
	case "right":
		return false, true, true
	case "full":
		return true, true, true
	}
	return false, false, false
}

func always() api.Expr {
	return api.Expr{Op: "lit", V: api.Value{Kind: api.Bool, I: 1}}
}

// nulls is so many NULLs; no row is wider than the limit, so that no width asks for more room than there is.
func nulls(wide int) api.Row { return make(api.Row, max(0, min(wide, mostValues))) }
