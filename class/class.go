// Package class implements sets of bytes (layer 1).
package class

import (
	"cmp"
	"iter"
	"math/bits"
	"slices"

	"viewport/api"
)

// Of returns the class of the bytes of s.
func Of(s string) api.Class {
	var c api.Class
	for i := range len(s) {
		c = with(c, s[i])
	}
	return c
}

// Range returns the class of all bytes from low to high, empty if high is below low.
func Range(low, high byte) api.Class {
	var c api.Class
	// An int, because a byte never exceeds a high of 255.
	for b := int(low); b <= int(high); b++ {
		c = with(c, byte(b))
	}
	return c
}

// Has reports whether c contains b.
func Has(c api.Class, b byte) bool {
	return c[b/64]>>(b%64)&1 == 1
}

// Union returns the class of the bytes that are in at least one of a and b.
func Union(a, b api.Class) api.Class {
	for i, word := range b {
		a[i] |= word
	}
	return a
}

// Meet returns the class of the bytes that are in both a and b.
func Meet(a, b api.Class) api.Class {
	for i, word := range b {
		a[i] &= word
	}
	return a
}

// Not returns the class of the bytes that are not in c.
func Not(c api.Class) api.Class {
	for i, word := range c {
		c[i] = ^word
	}
	return c
}

// Len returns the number of bytes in c.
func Len(c api.Class) int {
	n := 0
	for _, word := range c {
		n += bits.OnesCount64(word)
	}
	return n
}

// Bytes returns all bytes in c in ascending order.
func Bytes(c api.Class) string {
	l := make([]byte, 0, Len(c))
	for b := range Each(c) {
		l = append(l, b)
	}
	return string(l)
}

// Least returns the smallest byte in c; 0 and false if there is none.
func Least(c api.Class) (byte, bool) {
	for b := range Each(c) {
		return b, true
	}
	return 0, false
}

// Compare returns -1, 0 or 1 by the order of the Bytes of a and b.
func Compare(a, b api.Class) int {
	return cmp.Compare(Bytes(a), Bytes(b))
}

// Split partitions all bytes into the classes of bytes that are equivalent for l, ordered by their smallest bytes.
func Split(l []api.Class) []api.Class {
	parts := []api.Class{Not(api.Class{})}
	for _, c := range l {
		parts = cut(parts, c)
	}
	slices.SortFunc(parts, bySmallest)
	return parts
}

// Each yields the bytes of c in ascending order.
func Each(c api.Class) iter.Seq[byte] {
	return func(yield func(byte) bool) {
		for i, word := range c {
			for ; word != 0; word &= word - 1 {
				if !yield(byte(i*64 + bits.TrailingZeros64(word))) {
					return
				}
			}
		}
	}
}

func with(c api.Class, b byte) api.Class {
	c[b/64] |= 1 << (b % 64)
	return c
}

// cut divides each part into its bytes that are in c and those that are not.
func cut(parts []api.Class, c api.Class) []api.Class {
	out := make([]api.Class, 0, len(parts)+1)
	for _, part := range parts {
		for _, half := range [2]api.Class{Meet(part, c), Meet(part, Not(c))} {
			if half != (api.Class{}) {
				out = append(out, half)
			}
		}
	}
	return out
}

func bySmallest(a, b api.Class) int {
	x, _ := Least(a)
	y, _ := Least(b)
	return cmp.Compare(x, y)
}
