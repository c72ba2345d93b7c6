package code

import (
	"bytes"
	"strings"

	"boscage/api"
)

const (
	wide     = 8         // bytes of an Int
	narrow   = 4         // bytes of a text's length
	mostText = 1<<31 - 1 // bytes of a text
	highest  = 1 << 63   // of an Int's bits
)

// form is one of the two ways to write values: what is turned of an Int's bits, and how a text's bytes (a Text's or a Blob's) stand.
type form struct {
	turned    uint64
	writeText func(b []byte, s string) []byte
	readText  func(b []byte) (string, []byte, bool)
}

// plain is how values stand in a row's bytes.
func plain() form { return form{0, writeCounted, readCounted} }

// ordered is how values stand in a row's key: with the highest bit turned the bytes of Ints below 0 are the lesser ones, and a text that ends is less than one that goes on.
func ordered() form { return form{highest, writeEnded, readEnded} }

// write lays a row's values behind b.
func (f form) write(b []byte, r api.Row) []byte {
	for _, v := range r {
		b = append(b, byte(v.Kind))
		switch v.Kind {
		case api.Bool:
			b = append(b, byte(v.I))
		case api.Int:
			n := split(uint64(v.I) ^ f.turned)
			b = append(b, n[:]...)
		case api.Text, api.Blob:
			b = f.writeText(b, v.S)
		}
	}
	return b
}

// read tells the value that stands at b's beginning, what is left behind it, and whether there is one.
func (f form) read(b []byte) (api.Value, []byte, bool) {
	if len(b) == 0 {
		return api.Value{}, nil, false
	}
	kind, b := int(b[0]), b[1:]
	switch {
	case kind == api.Null:
		return api.Value{}, b, true
	case kind == api.Bool && len(b) > 0 && b[0] <= 1:
		return api.Value{Kind: kind, I: int64(b[0])}, b[1:], true
	case kind == api.Int && len(b) >= wide:
		n := bits(b[:wide]).number() ^ f.turned
		return api.Value{Kind: kind, I: int64(n)}, b[wide:], true
	case kind == api.Text || kind == api.Blob:
		if s, left, ok := f.readText(b); ok {
			return api.Value{Kind: kind, S: s}, left, true
		}
	}
	return api.Value{}, nil, false
}

// bits are a number's, the highest byte first.
type bits [wide]byte

func split(n uint64) bits {
	var x bits
	for i := range x {
		x[wide-1-i] = byte(n)
		n >>= 8
	}
	return x
}

func (x bits) number() uint64 {
	var n uint64
	for _, c := range x {
		n = n<<8 | uint64(c)
	}
	return n
}

// writeCounted lays how many bytes s has behind b, and s itself.
func writeCounted(b []byte, s string) []byte {
	size := split(uint64(len(s)))
	b = append(b, size[wide-narrow:]...)
	return append(b, s...)
}

func readCounted(b []byte) (string, []byte, bool) {
	if len(b) < narrow {
		return "", nil, false
	}
	var size bits
	copy(size[wide-narrow:], b)
	n, b := size.number(), b[narrow:]
	if n > mostText || n > uint64(len(b)) {
		return "", nil, false
	}
	return string(b[:n]), b[n:], true
}

// writeEnded lays s behind b with a 255 behind each 0, and 0 0 for its end.
func writeEnded(b []byte, s string) []byte {
	b = append(b, strings.ReplaceAll(s, "\x00", "\x00\xff")...)
	return append(b, 0, 0)
}

func readEnded(b []byte) (string, []byte, bool) {
	var s []byte
	for {
		zero := bytes.IndexByte(b, 0)
		if zero < 0 || zero+1 == len(b) {
			return "", nil, false
		}
		s = append(s, b[:zero]...)
		mark := b[zero+1]
		b = b[zero+2:]
		switch mark {
		case 0:
			return string(s), b, true
		case 255:
			s = append(s, 0)
		default:
			return "", nil, false
		}
	}
}
