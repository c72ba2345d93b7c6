package rows

import (
	"slices"

	"boscage/api"
	"boscage/value"
)

// Sort puts rows in order by keys.
func Sort(l []api.Row, keys []api.Key) ([]api.Row, api.Errno) {
	var es []api.Expr
	for _, k := range keys {
		es = append(es, k.E)
	}
	values, err := Project(l, es)
	if err != api.OK {
		return nil, err
	}
	places := make([]int, len(l))
	for i := range places {
		places[i] = i
	}
	slices.SortStableFunc(places, func(i, k int) int { return compared(keys, values[i], values[k]) })
	out := make([]api.Row, len(l))
	for i, place := range places {
		out[i] = joined(l[place])
	}
	return out, api.OK
}

// compared tells how two rows stand to one another by their keys' values.
func compared(keys []api.Key, a, b api.Row) int {
	for i, k := range keys {
		c := value.Compare(a[i], b[i])
		if k.Desc {
			c = -c
		}
		if c != 0 {
			return c
		}
	}
	return 0
}
