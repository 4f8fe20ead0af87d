// Package octet has numbers of both orders in bytes, texts as firmware has them, and pieces of bytes. It is layer 1 of lintel.
package octet

import "lintel/api"

// sizes are how many bytes a number may have.
var sizes = [4]int{1, 2, 4, 8}

func isSize(size int) bool {
	for _, s := range sizes {
		if s == size {
			return true
		}
	}
	return false
}

// within says whether b has n bytes from at on; it takes no sum, so that none can wrap.
func within(b []byte, at, n int) bool {
	return at >= 0 && n >= 0 && at <= len(b) && n <= len(b)-at
}

// lowestFirst leads from a byte's weight to its place, where the lowest byte stands first.
func lowestFirst(i int) int { return i }

// highestFirst makes the like for numbers of size bytes whose highest byte stands first.
func highestFirst(size int) func(i int) int {
	return func(i int) int { return size - 1 - i }
}

func get(b []byte, at, size int, place func(i int) int) (uint64, api.Errno) {
	if !isSize(size) || !within(b, at, size) {
		return 0, api.ErrArg
	}
	x := uint64(0)
	for i := range size {
		x |= uint64(b[at+place(i)]) << (8 * i)
	}
	return x, api.OK
}

func put(b []byte, x uint64, size int, place func(i int) int) []byte {
	if !isSize(size) {
		size = 0
	}
	out := make([]byte, len(b)+size)
	copy(out, b)
	for i := range size {
		out[len(b)+place(i)] = byte(x >> (8 * i))
	}
	return out
}

// Get is the number of size bytes from at on, its lowest byte first.
func Get(b []byte, at, size int) (uint64, api.Errno) {
	return get(b, at, size, lowestFirst)
}

// Put is b with the lowest size bytes of x behind it, the lowest one first.
func Put(b []byte, x uint64, size int) []byte {
	return put(b, x, size, lowestFirst)
}

// GetBig is the number of size bytes from at on, its highest byte first.
func GetBig(b []byte, at, size int) (uint64, api.Errno) {
	return get(b, at, size, highestFirst(size))
}

// PutBig is b with the lowest size bytes of x behind it, the highest one first.
func PutBig(b []byte, x uint64, size int) []byte {
	return put(b, x, size, highestFirst(size))
}

// Wide is a text in pairs of bytes: each letter and a byte 0; nothing, if one of its bytes is no letter.
func Wide(s string) []byte {
	out := make([]byte, 0, 2*len(s))
	for _, r := range s {
		// A byte above 127 is part of a rune above 127, or comes as the rune of what is no text.
		if r < 1 || r > 127 {
			return nil
		}
		out = append(out, byte(r), 0)
	}
	return out
}

// Narrow is the text of which Wide makes b.
func Narrow(b []byte) (string, api.Errno) {
	if len(b)%2 != 0 {
		return "", api.ErrForm
	}
	out := make([]byte, 0, len(b)/2)
	for i := 0; i < len(b); i += 2 {
		if b[i] < 1 || b[i] > 127 || b[i+1] != 0 {
			return "", api.ErrForm
		}
		out = append(out, b[i])
	}
	return string(out), api.OK
}

// Cut is the n bytes of b from at on, as new memory, and whether they are within b.
func Cut(b []byte, at, n int) ([]byte, bool) {
	if !within(b, at, n) {
		return nil, false
	}
	out := make([]byte, n)
	copy(out, b[at:])
	return out, true
}
