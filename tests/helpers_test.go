package tests

import (
	"slices"
	"testing"
)

// roomy returns a copy of a list with spare capacity filled with marks, to show whether a function
// writes behind its argument.
func roomy(list []int64) []int64 {
	whole := append(slices.Clone(list), -77, -78, -79)
	return whole[:len(list)]
}

// checkKept fails if a list made by roomy, or the marks behind it, have changed.
func checkKept(t *testing.T, name string, given, list []int64) {
	t.Helper()
	want := append(slices.Clone(list), -77, -78, -79)
	if got := given[:len(want)]; !slices.Equal(got, want) {
		t.Errorf("%s changed its argument %v to %v", name, want, got)
	}
}

// filled returns a list of count elements that are all the same.
func filled(count int, element int64) []int64 {
	return slices.Repeat([]int64{element}, count)
}

// joined returns the elements of several lists in one.
func joined(lists ...[]int64) []int64 {
	return slices.Concat(lists...)
}

// sequence gives numbers that look irregular but are the same in every run.
type sequence uint64

func (s *sequence) below(n int64) int64 {
	*s = *s*6364136223846793005 + 1442695040888963407
	return int64(uint64(*s>>11) % uint64(n))
}

// fill sets all elements of a list.
func fill(list []int64, element int64) {
	for i := range list {
		list[i] = element
	}
}
