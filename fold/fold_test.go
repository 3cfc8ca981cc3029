package fold

import (
	"slices"
	"strconv"
	"testing"
)

func TestOver(t *testing.T) {
	join := func(s string, x int) string { return s + strconv.Itoa(x) }
	if got := Over(slices.Values([]int{3, 1, 2}), "<", join); got != "<312" {
		t.Error(got)
	}
	if got := Over(slices.Values([]int(nil)), "<", join); got != "<" {
		t.Error(got)
	}
}
