package tests

import (
	"math"
	"slices"
	"testing"
)

var sizes = []int{2, 3, 4, 5, 7, 8, 9, 11, 13, 16}

// noSizes has the numbers between and around the sizes, prime powers past the greatest one, and the limits of int.
var noSizes = []int{math.MinInt, math.MinInt + 1, -16, -5, -4, -1, 0, 1, 6, 10, 12, 14, 15, 17, 19, 25, 27, 32, math.MaxInt - 1, math.MaxInt}

// noElements has the nearest numbers below and not below the size first.
func noElements(q int) []int {
	return []int{-1, q, q + 1, -q, math.MinInt, math.MinInt + 1, math.MaxInt - 1, math.MaxInt}
}

// must returns the value of a call that has to succeed.
func must[T any](t *testing.T) func(T, bool) T {
	return func(value T, ok bool) T {
		t.Helper()
		if !ok {
			t.Fatal("the call failed")
		}
		return value
	}
}

func wantNumber(t *testing.T, name string, got int, ok bool, want int) {
	t.Helper()
	if !ok || got != want {
		t.Errorf("%s: got %d, %v, want %d", name, got, ok, want)
	}
}

func wantList(t *testing.T, name string, got []int, ok bool, want ...int) {
	t.Helper()
	if !ok || !slices.Equal(got, want) {
		t.Errorf("%s: got %v, %v, want %v", name, got, ok, want)
	}
}

func failsNumber(t *testing.T, name string, got int, ok bool, arguments ...int) {
	t.Helper()
	if ok || got != 0 {
		t.Errorf("%s%v: got %d, %v, want 0, false", name, arguments, got, ok)
	}
}

func failsList(t *testing.T, name string, got []int, ok bool, arguments ...int) {
	t.Helper()
	if ok || len(got) != 0 {
		t.Errorf("%s%v: got %v, %v, want none, false", name, arguments, got, ok)
	}
}
