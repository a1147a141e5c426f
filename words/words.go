// Package words is layer 1: numbers in bytes, the lowest byte first; addresses, which never wrap; pages.
package words

import "hostel/api"

var sizes = [4]int{1, 2, 4, 8}

func isSize(size int) bool {
	for _, s := range sizes {
		if s == size {
			return true
		}
	}
	return false
}

// check says whether a number of that size stands within b from at on.
func check(b []byte, at uint64, size int) api.Errno {
	if !isSize(size) {
		return api.ErrArg
	}
	if !Inside(at, uint64(size), uint64(len(b))) {
		return api.ErrShort
	}
	return api.OK
}

// Get is the number of so many bytes at a place.
func Get(b []byte, at uint64, size int) (uint64, api.Errno) {
	if e := check(b, at, size); e != api.OK {
		return 0, e
	}
	var x uint64
	for i := range uint64(size) {
		x |= uint64(b[at+i]) << (8 * i)
	}
	return x, api.OK
}

// Set is the bytes with a number at a place.
func Set(b []byte, at uint64, size int, x uint64) ([]byte, api.Errno) {
	if e := check(b, at, size); e != api.OK {
		return nil, e
	}
	out := make([]byte, len(b))
	copy(out, b)
	for i := range uint64(size) {
		out[at+i] = byte(x >> (8 * i))
	}
	return out, api.OK
}

// Add is a sum below 2^64.
func Add(a, b uint64) (uint64, bool) {
	sum := a + b
	if sum < a {
		return 0, false
	}
	return sum, true
}

// Down is where an address's page begins.
func Down(a uint64) uint64 {
	return a - a%api.Page
}

// Up is the first beginning of a page that is not below an address.
func Up(a uint64) (uint64, bool) {
	low := Down(a)
	if low == a {
		return a, true
	}
	return Add(low, api.Page)
}

// Inside says whether so many bytes from a place on end at the end, or ahead of it.
func Inside(from, size, end uint64) bool {
	return size <= end && from <= end-size
}

// Pages is the number of the first page that has one of the bytes, and how many have one.
func Pages(from, size uint64) (first, many uint64, e api.Errno) {
	end, ok := Add(from, size)
	if !ok {
		return 0, 0, api.ErrArg
	}
	first = from / api.Page
	if size == 0 {
		return first, 0, api.OK
	}
	return first, (end-1)/api.Page - first + 1, api.OK
}
