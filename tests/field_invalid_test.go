package tests

import (
	"math"
	"slices"
	"testing"

	"loop.example/g01163/impl"
)

type (
	ofSize    = func(int) (int, bool)
	ofElement = func(int, int) (int, bool)
	ofPair    = func(int, int, int) (int, bool)
	listSize  = func(int) ([]int, bool)
	listOf    = func(int, int) ([]int, bool)
)

func sizeCalls() map[string]ofSize { return map[string]ofSize{"FirstPrimitive": impl.FirstPrimitive} }

func elementCalls() map[string]ofElement {
	return map[string]ofElement{"InverseOf": impl.InverseOf, "OrderOf": impl.OrderOf, "LogOf": impl.LogOf, "TraceOf": impl.TraceOf, "NormOf": impl.NormOf}
}

func pairCalls() map[string]ofPair {
	return map[string]ofPair{"PlusOf": impl.PlusOf, "LessOf": impl.LessOf, "TimesOf": impl.TimesOf}
}

func listSizeCalls() map[string]listSize {
	return map[string]listSize{"ModulusOf": impl.ModulusOf, "AllPrimitive": impl.AllPrimitive, "SquaresOf": impl.SquaresOf}
}

func listElementCalls() map[string]listOf {
	return map[string]listOf{"DigitsOf": impl.DigitsOf, "ConjugatesOf": impl.ConjugatesOf}
}

func TestNoSizesFail(t *testing.T) {
	for _, q := range noSizes {
		if impl.IsSize(q) {
			t.Errorf("IsSize(%d)", q)
		}
		if p, k, ok := impl.PrimeOf(q); p != 0 || k != 0 || ok {
			t.Errorf("PrimeOf(%d) = %d, %d, %v", q, p, k, ok)
		}
		for name, call := range sizeCalls() {
			got, ok := call(q)
			failsNumber(t, name, got, ok, q)
		}
		for name, call := range listSizeCalls() {
			got, ok := call(q)
			failsList(t, name, got, ok, q)
		}
		for _, a := range append(noElements(16), 0, 1, 2) {
			checkFailures(t, q, a)
		}
	}
}

func TestNoElementsFail(t *testing.T) {
	for _, q := range sizes {
		for _, a := range noElements(q) {
			checkFailures(t, q, a)
		}
	}
}

// checkFailures is for a q that is no size, or an a that is no element: a is tried in every place of an element.
func checkFailures(t *testing.T, q, a int) {
	t.Helper()
	for name, call := range elementCalls() {
		got, ok := call(q, a)
		failsNumber(t, name, got, ok, q, a)
	}
	for name, call := range listElementCalls() {
		got, ok := call(q, a)
		failsList(t, name, got, ok, q, a)
	}
	for name, call := range pairCalls() {
		for _, pair := range [][2]int{{a, 0}, {0, a}, {a, 1}, {1, a}, {a, a}} {
			got, ok := call(q, pair[0], pair[1])
			failsNumber(t, name, got, ok, q, pair[0], pair[1])
		}
	}
	for _, k := range []int{-1000, -1, 0, 1, 1000} {
		got, ok := impl.PowerOf(q, a, k)
		failsNumber(t, "PowerOf", got, ok, q, a, k)
	}
}

func TestPowersOutsideOfTheirLimitsFail(t *testing.T) {
	for _, q := range sizes {
		for _, k := range []int{-1001, 1001, math.MinInt, math.MinInt + 1, math.MaxInt - 1, math.MaxInt} {
			for a := range q {
				got, ok := impl.PowerOf(q, a, k)
				failsNumber(t, "PowerOf", got, ok, q, a, k)
			}
		}
		for _, k := range []int{-1, 1001, math.MinInt, math.MinInt + 1, math.MaxInt - 1, math.MaxInt} {
			got, ok := impl.SumOfAll(q, k)
			failsNumber(t, "SumOfAll", got, ok, q, k)
		}
		for _, k := range []int{-1, -1000} {
			got, ok := impl.PowerOf(q, 0, k)
			failsNumber(t, "PowerOf", got, ok, q, 0, k)
		}
	}
	for _, q := range noSizes {
		for _, k := range []int{-1, 0, 1, 1000, 1001} {
			got, ok := impl.SumOfAll(q, k)
			failsNumber(t, "SumOfAll", got, ok, q, k)
		}
	}
}

func TestLimitsAreMetExactly(t *testing.T) {
	got, ok := impl.PowerOf(16, 2, 1000)
	wantNumber(t, "PowerOf(16, 2, 1000)", got, ok, modelOf(16).power(2, 1000%15))
	got, ok = impl.PowerOf(16, 2, -1000)
	wantNumber(t, "PowerOf(16, 2, -1000)", got, ok, modelOf(16).power(2, 5))
	got, ok = impl.PowerOf(7, 0, 1000)
	wantNumber(t, "PowerOf(7, 0, 1000)", got, ok, 0)
	got, ok = impl.PowerOf(7, 0, 0)
	wantNumber(t, "PowerOf(7, 0, 0)", got, ok, 1)
	got, ok = impl.SumOfAll(11, 1000)
	wantNumber(t, "SumOfAll(11, 1000)", got, ok, 10)
	got, ok = impl.SumOfAll(9, 1000)
	wantNumber(t, "SumOfAll(9, 1000)", got, ok, 2)
	got, ok = impl.SumOfAll(11, 0)
	wantNumber(t, "SumOfAll(11, 0)", got, ok, 0)
	got, ok = impl.PlusOf(16, 15, 15)
	wantNumber(t, "PlusOf(16, 15, 15)", got, ok, 0)
}

func TestSubfieldsOfInvalidArgumentsFail(t *testing.T) {
	for _, q := range noSizes {
		for _, r := range append([]int{q}, sizes...) {
			got, ok := impl.SubfieldOf(q, r)
			failsList(t, "SubfieldOf", got, ok, q, r)
		}
	}
	for _, q := range sizes {
		for _, r := range noSizes {
			got, ok := impl.SubfieldOf(q, r)
			failsList(t, "SubfieldOf", got, ok, q, r)
		}
	}
}

// TestListsAreNewEachTime writes into a result, behind its length too: the next call must not see it.
func TestListsAreNewEachTime(t *testing.T) {
	for _, q := range sizes {
		for name, call := range listSizeCalls() {
			checkNew(t, name, func() ([]int, bool) { return call(q) })
		}
		for name, call := range listElementCalls() {
			for a := range q {
				checkNew(t, name, func() ([]int, bool) { return call(q, a) })
			}
		}
		checkNew(t, "SubfieldOf", func() ([]int, bool) { return impl.SubfieldOf(q, q) })
	}
}

func checkNew(t *testing.T, name string, call func() ([]int, bool)) {
	t.Helper()
	first, _ := call()
	kept := slices.Clone(first)
	whole := first[:cap(first)]
	for i := range whole {
		whole[i] = -7
	}
	second, ok := call()
	wantList(t, name, second, ok, kept...)
}
