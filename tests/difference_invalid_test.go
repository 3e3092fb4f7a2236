package tests

import (
	"fmt"
	"math"
	"slices"
	"testing"

	"loop.example/g01163/impl"
)

// differenceCalls has each place where a polynomial is required, for fields of both kinds, and succeeds for all of them.
func differenceCalls() map[string]listCall {
	return map[string]listCall{
		"DifferencePoly":       func(q int, f []int) ([]int, bool) { return impl.DifferencePoly(q, f, 1) },
		"DifferencePoly, last": func(q int, f []int) ([]int, bool) { return impl.DifferencePoly(q, f, q-1) },
		"DifferenceCounts":     func(q int, f []int) ([]int, bool) { return impl.DifferenceCounts(q, f, 1) },
		"GreatestCount":        func(q int, f []int) ([]int, bool) { return asList(impl.GreatestCount(q, f)) },
		"SpreadOfCounts":       impl.SpreadOfCounts,
		"MoveMap, no change":   func(q int, f []int) ([]int, bool) { return impl.MoveMap(q, f, 1, 0, 1, 0) },
		"MoveMap, change":      func(q int, f []int) ([]int, bool) { return impl.MoveMap(q, f, q-1, 1, q-1, 1) },
		"SecondDifference":     func(q int, f []int) ([]int, bool) { return impl.SecondDifference(q, f, 1, q-1) },
	}
}

// bestCalls are for fields of one kind.
func bestCalls() map[string]listCall {
	return map[string]listCall{
		"IsPlanar":        func(q int, f []int) ([]int, bool) { return yesAsList(impl.IsPlanar(q, f)) },
		"IsAlmostPerfect": func(q int, f []int) ([]int, bool) { return yesAsList(impl.IsAlmostPerfect(q, f)) },
	}
}

// repeatedCalls fail for planar and almost perfect polynomials.
func repeatedCalls() map[string]listCall {
	return map[string]listCall{"FirstRepeated": impl.FirstRepeated}
}

func allDifferenceCalls() []map[string]listCall {
	return []map[string]listCall{differenceCalls(), bestCalls(), repeatedCalls()}
}

// failsStep is for a that is no element other than 0, or for another argument that is not valid.
func failsStep(t *testing.T, q int, f []int, a int) {
	t.Helper()
	arguments := append([]int{q, a}, f...)
	difference, ok := impl.DifferencePoly(q, f, a)
	failsList(t, "DifferencePoly", difference, ok, arguments...)
	counts, ok := impl.DifferenceCounts(q, f, a)
	failsList(t, "DifferenceCounts", counts, ok, arguments...)
	for _, pair := range [][2]int{{a, 1}, {1, a}, {a, q - 1}, {q - 1, a}, {a, a}} {
		second, ok := impl.SecondDifference(q, f, pair[0], pair[1])
		failsList(t, "SecondDifference", second, ok, append(pair[:], arguments...)...)
	}
}

func failsMove(t *testing.T, q int, f []int, u, v, w, z int) {
	t.Helper()
	moved, ok := impl.MoveMap(q, f, u, v, w, z)
	failsList(t, "MoveMap", moved, ok, append([]int{q, u, v, w, z}, f...)...)
}

func failsSumPower(t *testing.T, q, i int) {
	t.Helper()
	f, ok := impl.SumPower(q, i)
	failsList(t, "SumPower", f, ok, q, i)
	count, ok := impl.SumPowerCount(q, i)
	failsNumber(t, "SumPowerCount", count, ok, q, i)
}

// ordinaryPolys are valid over each field.
func ordinaryPolys(q int) [][]int {
	return [][]int{nil, {1}, {0, 1}, {1, 1}, powerTerms(q - 1), slices.Repeat([]int{1}, q), slices.Repeat([]int{q - 1}, q)}
}

func TestListsThatAreNoPolysHaveNoDifferences(t *testing.T) {
	for _, q := range sizes {
		for _, calls := range allDifferenceCalls() {
			failsLists(t, q, calls, noPolys(q))
			failsLists(t, q, calls, longLists)
		}
		for _, f := range noPolys(q) {
			for _, a := range []int{0, 1, q - 1, q} {
				failsStep(t, q, f, a)
				failsMove(t, q, f, a, 0, 1, 0)
				failsMove(t, q, f, 1, a, 1, a)
			}
		}
	}
}

func TestDifferencesByZeroOrByNoElementFail(t *testing.T) {
	for _, q := range sizes {
		for _, f := range ordinaryPolys(q) {
			failsStep(t, q, f, 0)
			for _, a := range noElements(q) {
				failsStep(t, q, f, a)
			}
			for _, a := range noElements(q) {
				for _, pair := range [][2]int{{0, a}, {a, 0}} {
					second, ok := impl.SecondDifference(q, f, pair[0], pair[1])
					failsList(t, "SecondDifference", second, ok, append([]int{q, pair[0], pair[1]}, f...)...)
				}
			}
		}
	}
}

// TestMovesWithoutTheirElementsFail has numbers that are no elements in each place, and 0 where it is not allowed.
func TestMovesWithoutTheirElementsFail(t *testing.T) {
	for _, q := range sizes {
		for _, f := range ordinaryPolys(q) {
			for b := range q {
				failsMove(t, q, f, 0, b, 1, b)
				failsMove(t, q, f, 1, b, 0, b)
				failsMove(t, q, f, 0, b, 0, b)
			}
			for _, a := range noElements(q) {
				for _, c := range []int{1, q - 1} {
					failsMove(t, q, f, a, c, c, c)
					failsMove(t, q, f, c, a, c, c)
					failsMove(t, q, f, c, c, a, c)
					failsMove(t, q, f, c, c, c, a)
				}
				failsMove(t, q, f, a, 0, 1, 0)
				failsMove(t, q, f, 1, a, 1, 0)
				failsMove(t, q, f, 1, 0, a, 0)
				failsMove(t, q, f, 1, 0, 1, a)
				failsMove(t, q, f, a, a, a, a)
			}
		}
	}
}

func TestPlanarPolysAreOverOddFieldsAlone(t *testing.T) {
	for _, q := range sizes {
		other := "IsAlmostPerfect"
		if q%2 == 0 {
			other = "IsPlanar"
		}
		polys := slices.Concat(ordinaryPolys(q), bestPolys(q), powerPolys(q), manyPolys(q))
		failsLists(t, q, map[string]listCall{other: bestCalls()[other]}, polys)
	}
}

func TestBestPolysHaveNoRepeatedValues(t *testing.T) {
	for _, q := range sizes {
		failsLists(t, q, repeatedCalls(), bestPolys(q))
	}
	failsLists(t, 2, repeatedCalls(), manyPolys(2))
}

func TestPlanarPolysOverOtherFieldsAreNotCounted(t *testing.T) {
	for _, q := range append(slices.Clone(sizes), noSizes...) {
		if q == 3 || q == 5 {
			continue
		}
		count, ok := impl.CountPlanar(q)
		failsNumber(t, "CountPlanar", count, ok, q)
	}
}

func TestSumPowersOutsideOfTheirLimitsFail(t *testing.T) {
	for _, q := range sizes {
		k := modelOf(q).places
		for _, i := range []int{-1, -2, -k, k + 1, k + 2, 2 * k, 2*k + 1, 10, 64, 1000, math.MinInt, math.MinInt + 1, math.MaxInt - 1, math.MaxInt} {
			if i < 0 || i > k {
				failsSumPower(t, q, i)
			}
		}
	}
}

func TestNoSizesHaveNoDifferences(t *testing.T) {
	lists := [][]int{nil, {0}, {1}, {0, 1}, {1, 1}, {1, 0}, {0, 0, 1}, {-1}, {17}, identityTable(6), make([]int, 40)}
	for _, q := range noSizes {
		for _, calls := range allDifferenceCalls() {
			failsLists(t, q, calls, lists)
		}
		for _, f := range [][]int{nil, {1}, {0, 1}, {0, 0, 1}} {
			for _, a := range []int{-1, 0, 1, 2, q - 1, q} {
				failsStep(t, q, f, a)
				failsMove(t, q, f, a, 0, 1, 0)
				failsMove(t, q, f, 1, a, a, a)
			}
		}
		for _, i := range []int{-1, 0, 1, 2, 3, 4, 5} {
			failsSumPower(t, q, i)
		}
	}
}

// TestLimitsOfDifferencesAreMetExactly has the field of 2, the greatest field with q coefficients, and the greatest i.
func TestLimitsOfDifferencesAreMetExactly(t *testing.T) {
	for _, f := range [][]int{nil, {1}, {0, 1}, {1, 1}} {
		wantBest(t, 2, f, true)
		greatest, ok := impl.GreatestCount(2, f)
		wantNumber(t, "GreatestCount over 2", greatest, ok, 2)
	}
	for _, q := range sizes {
		m, full := modelPolysOfSize(q), slices.Repeat([]int{q - 1}, q)
		table := m.table(full)
		difference, ok := impl.DifferencePoly(q, full, q-1)
		wantPoly(t, "DifferencePoly", q, difference, ok, m.difference(table, q-1))
		second, ok := impl.SecondDifference(q, full, q-1, q-1)
		wantPoly(t, "SecondDifference", q, second, ok, m.difference(m.difference(table, q-1), q-1))
		moved, ok := impl.MoveMap(q, full, q-1, q-1, q-1, q-1)
		wantPoly(t, "MoveMap", q, moved, ok, m.movedTable(table, q-1, q-1, q-1, q-1))
		k := modelOf(q).places
		f, ok := impl.SumPower(q, k)
		wantPoly(t, "SumPower", q, f, ok, m.table(powerTerms(2)))
		count, ok := impl.SumPowerCount(q, k)
		want := 1
		if q%2 == 0 {
			want = q
		}
		wantNumber(t, fmt.Sprint("SumPowerCount ", q), count, ok, want)
	}
	count, ok := impl.CountPlanar(5)
	wantNumber(t, "CountPlanar", count, ok, 100)
	count, ok = impl.CountPlanar(3)
	wantNumber(t, "CountPlanar", count, ok, 18)
}

func TestPolyZeroHasDifferences(t *testing.T) {
	for _, q := range sizes {
		for name, call := range differenceCalls() {
			for _, zero := range [][]int{nil, {}} {
				if _, ok := call(q, zero); !ok {
					t.Errorf("%s fails for 0 over %d", name, q)
				}
			}
		}
	}
}

func TestNilAndEmptyListsHaveTheSameDifferences(t *testing.T) {
	for _, q := range sizes {
		for _, calls := range allDifferenceCalls() {
			for name, call := range calls {
				first, ok := call(q, nil)
				second, okToo := call(q, []int{})
				if ok != okToo || !slices.Equal(first, second) {
					t.Errorf("%s over %d: %v, %v for nil, and %v, %v for an empty list", name, q, first, ok, second, okToo)
				}
			}
		}
	}
}

func TestArgumentsOfDifferencesAndWhatIsBehindThemAreKept(t *testing.T) {
	for _, q := range sizes {
		polys := slices.Concat(ordinaryPolys(q), bestPolys(q), allButMost(differedPolys(t, q)), allButMost(noPolys(q)))
		for _, calls := range allDifferenceCalls() {
			checkKept(t, q, calls, polys)
		}
	}
}

func TestListsOfDifferencesAreNewEachTime(t *testing.T) {
	for _, q := range sizes {
		for _, f := range slices.Concat(ordinaryPolys(q), allButMost(differedPolys(t, q))) {
			for _, calls := range allDifferenceCalls() {
				for name, call := range calls {
					if _, ok := call(q, f); ok {
						checkNew(t, fmt.Sprint(name, " ", q, f), func() ([]int, bool) { return call(q, f) })
					}
				}
			}
		}
		for i := range modelOf(q).places + 1 {
			checkNew(t, fmt.Sprint("SumPower ", q, i), func() ([]int, bool) { return impl.SumPower(q, i) })
		}
	}
}
