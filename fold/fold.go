// Package fold combines the elements of a sequence, for all layers that gather something of parts.
package fold

import "iter"

// Over returns what is left when each element of a sequence has been combined with what was gathered before it.
func Over[T, U any](l iter.Seq[T], start U, combine func(gathered U, x T) U) U {
	for x := range l {
		start = combine(start, x)
	}
	return start
}
