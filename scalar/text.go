package scalar

import (
	"strings"

	"boscage/api"
)

const mostReplaced = 100000 // bytes of what replace answers

func lower(l ...api.Value) (api.Value, api.Errno) { return text(turned(l[0].S, 'A')), api.OK }

func upper(l ...api.Value) (api.Value, api.Errno) { return text(turned(l[0].S, 'a')), api.OK }

// turned is a text with the 26 letters from one on turned from small to great, or from great to small. It goes by bytes, as a text need be no runes.
func turned(s string, from byte) string {
	b := []byte(s)
	for i, c := range b {
		if c >= from && c < from+26 {
			b[i] = c ^ ('a' - 'A')
		}
	}
	return string(b)
}

func trim(l ...api.Value) (api.Value, api.Errno) { return text(strings.Trim(l[0].S, " ")), api.OK }

func substr(l ...api.Value) (api.Value, api.Errno) {
	if l[2].I < 0 {
		return api.Value{}, api.ErrArg
	}
	return api.Value{Kind: l[0].Kind, S: piece(l[0].S, l[1].I, l[2].I)}, api.OK
}

// piece is what s has at so many places, the first of them being from.
func piece(s string, from, many int64) string {
	behind := int64(len(s)) + 1
	first := min(max(from, 1), behind)
	end := behind
	if from < 1 || many < behind-from { // elsewhere from + many might be beyond 64 bits
		end = min(max(from+many, first), behind)
	}
	return s[first-1 : end-1]
}

func instr(l ...api.Value) (api.Value, api.Errno) {
	return number(int64(strings.Index(l[0].S, l[1].S)) + 1), api.OK
}

func replace(l ...api.Value) (api.Value, api.Errno) {
	s, old, put := l[0].S, l[1].S, l[2].S
	if old == "" {
		return l[0], api.OK
	}
	// How long it gets is reckoned ahead, so that what is too long is never made.
	longer := int64(strings.Count(s, old)) * int64(len(put)-len(old))
	if int64(len(s))+longer > mostReplaced {
		return api.Value{}, api.ErrOver
	}
	return text(strings.ReplaceAll(s, old, put)), api.OK
}

func text(s string) api.Value { return api.Value{Kind: api.Text, S: s} }
