package code_test

import (
	"bytes"
	"hash/fnv"
	"slices"
	"testing"

	"boscage/code"
)

// P5.3: hashes, written out.
func TestHash(t *testing.T) {
	for _, x := range []struct {
		s    string
		want uint64
	}{
		{"", 14695981039346656037},
		{"a", 0xaf63dc4c8601ec8c},
		{"b", 0xaf63df4c8601f1a5},
		{"foobar", 0x85944171f73967e8},
		{"chongo was here!\n", 0x46810940eff5f915},
		{"\x00", 0xaf63bd4c8601b7df},
	} {
		if h := code.Hash([]byte(x.s)); h != x.want {
			t.Errorf("%q: got %x, want %x", x.s, h, x.want)
		}
	}
	if h := code.Hash(nil); h != 14695981039346656037 {
		t.Errorf("of nothing: got %x", h)
	}
}

// P5.3: the library has the same function.
func TestHashAll(t *testing.T) {
	l := sequences(3, 0, 1, 2, 97, 127, 128, 254, 255)
	for c := range 256 {
		l = append(l, []byte{byte(c)}, []byte{0, byte(c)}, []byte{byte(c), 255}, bytes.Repeat([]byte{byte(c)}, 1000))
	}
	for seed := range uint32(200) {
		l = append(l, noise(int(seed)*7, seed))
	}
	for _, b := range l {
		was := slices.Clone(b)
		want := fnv.New64a()
		want.Write(b)
		if h := code.Hash(b); h != want.Sum64() {
			t.Fatalf("%s: got %x, want %x", shown(b), h, want.Sum64())
		}
		if !slices.Equal(b, was) {
			t.Fatal("what was handed in was changed")
		}
	}
}
