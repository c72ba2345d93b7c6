package like

import "boscage/api"

// unit is what a pattern is made of: a byte that stands for itself, or one of those below.
type unit int16

const (
	one  unit = -1 // `_`: whatever byte
	many unit = -2 // `%`: whatever bytes
)

// read tells a pattern's units.
func read(pattern string) ([]unit, api.Errno) {
	units := make([]unit, 0, len(pattern))
	for at := 0; at < len(pattern); at++ {
		switch pattern[at] {
		case '%':
			units = append(units, many)
		case '_':
			units = append(units, one)
		case '\\':
			at++
			if at == len(pattern) || !special(pattern[at]) {
				return nil, api.ErrLike
			}
			fallthrough
		default:
			units = append(units, unit(pattern[at]))
		}
	}
	return units, api.OK
}

// special tells whether a byte stands for itself only behind a `\`.
func special(c byte) bool { return c == '%' || c == '_' || c == '\\' }
