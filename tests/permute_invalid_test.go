package tests

import (
	"fmt"
	"math"
	"slices"
	"testing"

	"loop.example/g01163/impl"
)

// clashAsList tells a failure from a clash by the number of its entries.
func clashAsList(a, b int, ok bool) ([]int, bool) {
	if a == 0 && b == 0 && !ok {
		return nil, false
	}
	return []int{a, b}, ok
}

// rowsAsList tells where the rows end, so that other rows make another list.
func rowsAsList(rows [][]int, ok bool) ([]int, bool) {
	var list []int
	for _, row := range rows {
		list = append(append(list, row...), -1)
	}
	return list, ok
}

// permutingCalls have to fail for polynomials that do not permute.
func permutingCalls() map[string]listCall {
	return map[string]listCall{
		"InversePoly":  impl.InversePoly,
		"CyclesOfPoly": func(q int, f []int) ([]int, bool) { return rowsAsList(impl.CyclesOfPoly(q, f)) },
		"OrderOfPoly":  func(q int, f []int) ([]int, bool) { return asList(impl.OrderOfPoly(q, f)) },
		"SignOfPoly":   func(q int, f []int) ([]int, bool) { return asList(impl.SignOfPoly(q, f)) },
	}
}

func lookingCalls() map[string]listCall {
	return map[string]listCall{
		"DoesPermute":     func(q int, f []int) ([]int, bool) { return yesAsList(impl.DoesPermute(q, f)) },
		"ByPowerSums":     func(q int, f []int) ([]int, bool) { return yesAsList(impl.ByPowerSums(q, f)) },
		"PowerSumOf, 0":   func(q int, f []int) ([]int, bool) { return asList(impl.PowerSumOf(q, f, 0)) },
		"PowerSumOf, 100": func(q int, f []int) ([]int, bool) { return asList(impl.PowerSumOf(q, f, 100)) },
		"FirstClash":      func(q int, f []int) ([]int, bool) { return clashAsList(impl.FirstClash(q, f)) },
		"FixedOf":         impl.FixedOf,
		"NormalOf":        impl.NormalOf,
		"IsNormal":        func(q int, f []int) ([]int, bool) { return yesAsList(impl.IsNormal(q, f)) },
	}
}

func cycleCalls() map[string]listCall { return map[string]listCall{"PolyOfCycle": impl.PolyOfCycle} }

func degreeCalls() map[string]ofElement {
	return map[string]ofElement{
		"CountPermuting": impl.CountPermuting,
		"NormalWith": func(q, degree int) (int, bool) {
			polys, ok := impl.NormalWith(q, degree)
			return len(polys), ok
		},
	}
}

// noCycles has each element twice, at all pairs of places of a list that has each other one once.
func noCycles(q int) [][]int {
	lists := [][]int{{0, 0}, {q - 1, q - 1}, make([]int, q), slices.Repeat([]int{1}, q), append(identityTable(q), 0), append(identityTable(q), q-1), append(identityTable(q), q)}
	for b := range q {
		for a := range b {
			list := identityTable(q)
			list[b] = list[a]
			lists = append(lists, list, list[:b+1])
		}
	}
	for _, a := range noElements(q) {
		lists = append(lists, []int{a}, []int{a, 0}, []int{0, a})
		for i := range q {
			list := identityTable(q)
			list[i] = a
			lists = append(lists, list)
		}
	}
	return lists
}

func TestListsThatAreNoPolysDoNotPermute(t *testing.T) {
	for _, q := range sizes {
		for _, calls := range []map[string]listCall{permutingCalls(), lookingCalls()} {
			failsLists(t, q, calls, noPolys(q))
			failsLists(t, q, calls, longLists)
		}
	}
}

func TestPolysThatDoNotPermuteHaveNoInverse(t *testing.T) {
	for _, q := range sizes {
		m := modelPolysOfSize(q)
		var others [][]int
		for _, f := range mixedPolys(t, q) {
			if !isPermutation(m.table(f)) {
				others = append(others, f)
			}
		}
		failsLists(t, q, permutingCalls(), others)
		failsLists(t, q, permutingCalls(), [][]int{nil, {}, {1}, {q - 1}})
	}
}

func TestPolysThatPermuteHaveNoClash(t *testing.T) {
	for _, q := range sizes {
		failsLists(t, q, map[string]listCall{"FirstClash": lookingCalls()["FirstClash"]}, permutingPolys(t, q))
	}
}

func TestConstantsHaveNoNormalForm(t *testing.T) {
	for _, q := range sizes {
		lists := [][]int{nil, {}}
		for a := 1; a < q; a++ {
			lists = append(lists, []int{a})
		}
		failsLists(t, q, map[string]listCall{"NormalOf": impl.NormalOf}, lists)
	}
}

func TestListsThatAreNoCyclesFail(t *testing.T) {
	for _, q := range sizes {
		failsLists(t, q, cycleCalls(), noCycles(q))
		failsLists(t, q, cycleCalls(), longLists)
		failsLists(t, q, cycleCalls(), [][]int{identityTable(41), identityTable(100000)})
	}
}

func TestNoElementsAreSwapped(t *testing.T) {
	for _, q := range sizes {
		for _, a := range noElements(q) {
			for _, pair := range [][2]int{{a, 0}, {0, a}, {a, 1}, {1, a}, {a, a}, {q - 1, a}} {
				f, ok := impl.SwapPoly(q, pair[0], pair[1])
				failsList(t, "SwapPoly", f, ok, q, pair[0], pair[1])
			}
		}
	}
}

func TestNoSizesDoNotPermute(t *testing.T) {
	lists := [][]int{nil, {0}, {1}, {0, 1}, {1, 1}, {1, 0}, {0, 0, 1}, {-1}, {17}, identityTable(6), make([]int, 40)}
	for _, q := range noSizes {
		for _, calls := range []map[string]listCall{permutingCalls(), lookingCalls(), cycleCalls()} {
			failsLists(t, q, calls, lists)
		}
		for name, call := range degreeCalls() {
			for _, degree := range []int{-1, 0, 1, 2, q - 1, q} {
				got, ok := call(q, degree)
				failsNumber(t, name, got, ok, q, degree)
			}
		}
		greatest, ok := impl.GreatestDegree(q)
		failsNumber(t, "GreatestDegree", greatest, ok, q)
		for _, pair := range [][2]int{{0, 0}, {0, 1}, {1, 0}, {-1, 0}, {q, 0}} {
			f, ok := impl.SwapPoly(q, pair[0], pair[1])
			failsList(t, "SwapPoly", f, ok, q, pair[0], pair[1])
		}
	}
}

func TestPowersOfSumsOutsideOfTheirLimitsFail(t *testing.T) {
	for _, q := range sizes {
		for _, k := range []int{-1, -2, 101, 102, 1000, math.MinInt, math.MinInt + 1, math.MaxInt - 1, math.MaxInt} {
			for _, f := range [][]int{nil, {1}, {0, 1}} {
				sum, ok := impl.PowerSumOf(q, f, k)
				failsNumber(t, "PowerSumOf", sum, ok, append([]int{q, k}, f...)...)
			}
		}
	}
}

func TestDegreesOutsideOfTheirLimitsFail(t *testing.T) {
	for name, call := range degreeCalls() {
		for _, q := range countedSizes {
			for _, degree := range []int{0, -1, -2, q, q + 1, 1000, math.MinInt, math.MinInt + 1, math.MaxInt - 1, math.MaxInt} {
				got, ok := call(q, degree)
				failsNumber(t, name, got, ok, q, degree)
			}
		}
		for _, q := range []int{8, 9, 11, 13, 16} {
			for degree := -1; degree <= q+1; degree++ {
				got, ok := call(q, degree)
				failsNumber(t, name, got, ok, q, degree)
			}
		}
	}
}

func TestLimitsOfPermutingAreMetExactly(t *testing.T) {
	sum, ok := impl.PowerSumOf(11, []int{0, 1}, 100)
	wantNumber(t, "PowerSumOf", sum, ok, 10)
	sum, ok = impl.PowerSumOf(11, nil, 0)
	wantNumber(t, "PowerSumOf of 0 and 0", sum, ok, 0)
	sum, ok = impl.PowerSumOf(3, []int{0, 0, 1}, 1)
	wantNumber(t, "PowerSumOf x^2", sum, ok, 2)
	count, ok := impl.CountPermuting(7, 1)
	wantNumber(t, "CountPermuting", count, ok, 42)
	count, ok = impl.CountPermuting(7, 6)
	wantNumber(t, "CountPermuting", count, ok, 0)
	polys, ok := impl.NormalWith(7, 6)
	wantRows(t, "NormalWith", polys, ok)
	polys, ok = impl.NormalWith(7, 1)
	wantRows(t, "NormalWith", polys, ok, []int{0, 1})
	f, ok := impl.PolyOfCycle(16, identityTable(16))
	wantPoly(t, "PolyOfCycle", 16, f, ok, append(identityTable(16)[1:], 0))
	order, ok := impl.OrderOfPoly(16, f)
	wantNumber(t, "OrderOfPoly", order, ok, 16)
	full := slices.Repeat([]int{1}, 16)
	normal, ok := impl.NormalOf(16, full)
	wantRows(t, "NormalOf", [][]int{normal}, ok, modelPolysOfSize(16).normalsOf(full)...)
}

func TestNilAndEmptyListsPermuteAlike(t *testing.T) {
	for _, calls := range []map[string]listCall{permutingCalls(), lookingCalls(), cycleCalls()} {
		for name, call := range calls {
			first, ok := call(5, nil)
			second, okToo := call(5, []int{})
			if ok != okToo || !slices.Equal(first, second) {
				t.Errorf("%s: %v, %v for nil, and %v, %v for an empty list", name, first, ok, second, okToo)
			}
		}
	}
}

func TestArgumentsOfPermutingAndWhatIsBehindThemAreKept(t *testing.T) {
	for _, q := range sizes {
		polys := slices.Concat(somePolys(q, 1), allButMost(permutingPolys(t, q)), allButMost(noPolys(q)))
		checkKept(t, q, permutingCalls(), polys)
		checkKept(t, q, lookingCalls(), polys)
		checkKept(t, q, cycleCalls(), append(allButMost(manyCycles(q)), allButMost(noCycles(q))...))
	}
}

func TestListsOfPermutingAreNewEachTime(t *testing.T) {
	for _, q := range sizes {
		for _, f := range allButMost(permutingPolys(t, q)) {
			checkNew(t, fmt.Sprint("InversePoly ", q), func() ([]int, bool) { return impl.InversePoly(q, f) })
			checkNew(t, fmt.Sprint("FixedOf ", q), func() ([]int, bool) { return impl.FixedOf(q, f) })
			checkNew(t, fmt.Sprint("NormalOf ", q), func() ([]int, bool) { return impl.NormalOf(q, f) })
			checkNewRows(t, fmt.Sprint("CyclesOfPoly ", q), func() ([][]int, bool) { return impl.CyclesOfPoly(q, f) })
		}
		checkNew(t, "SwapPoly", func() ([]int, bool) { return impl.SwapPoly(q, 0, 1) })
		checkNew(t, "PolyOfCycle", func() ([]int, bool) { return impl.PolyOfCycle(q, identityTable(q)) })
	}
	for _, q := range countedSizes {
		for degree := 1; degree < q; degree++ {
			checkNewRows(t, fmt.Sprint("NormalWith ", q, degree), func() ([][]int, bool) { return impl.NormalWith(q, degree) })
		}
	}
}

// checkNewRows writes into one row after the other, behind their lengths too: neither the rows behind it nor those of the next call must change.
func checkNewRows(t *testing.T, name string, call func() ([][]int, bool)) {
	t.Helper()
	rows, _ := call()
	kept := copiedRows(rows)
	for i, row := range rows {
		overwrite(row)
		wantRows(t, name+", other rows", rows[i+1:], true, kept[i+1:]...)
	}
	for _, row := range rows {
		if slices.ContainsFunc(row, func(a int) bool { return a != -7 }) {
			t.Errorf("%s: rows share memory: %v", name, rows)
		}
	}
	again, ok := call()
	wantRows(t, name, again, ok, kept...)
}

func copiedRows(rows [][]int) [][]int {
	var copied [][]int
	for _, row := range rows {
		copied = append(copied, slices.Clone(row))
	}
	return copied
}
