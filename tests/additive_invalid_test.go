package tests

import (
	"fmt"
	"math"
	"slices"
	"testing"

	"loop.example/g01163/impl"
)

// additiveCalls has each place where an additive polynomial is required. Those but AdditiveInverse succeed for all of them.
func additiveCalls() map[string]listCall {
	return map[string]listCall{
		"CoefficientsOf":   impl.CoefficientsOf,
		"RowsOf":           func(q int, f []int) ([]int, bool) { return rowsAsList(impl.RowsOf(q, f)) },
		"KernelOf":         impl.KernelOf,
		"ImageOf":          impl.ImageOf,
		"RankOf":           func(q int, f []int) ([]int, bool) { return asList(impl.RankOf(q, f)) },
		"AdditiveInverse":  impl.AdditiveInverse,
		"AdjointOf":        impl.AdjointOf,
		"SolveAdditive, 0": func(q int, f []int) ([]int, bool) { return impl.SolveAdditive(q, f, 0) },
		"SolveAdditive, 1": func(q int, f []int) ([]int, bool) { return impl.SolveAdditive(q, f, 1) },
	}
}

// judgingCalls are for any polynomial.
func judgingCalls() map[string]listCall {
	return map[string]listCall{
		"IsAdditive": func(q int, f []int) ([]int, bool) { return yesAsList(impl.IsAdditive(q, f)) },
		"IsMoved":    func(q int, f []int) ([]int, bool) { return yesAsList(impl.IsMoved(q, f)) },
	}
}

func additiveTableCalls() map[string]listCall {
	return map[string]listCall{
		"IsAdditiveTable": func(q int, table []int) ([]int, bool) { return yesAsList(impl.IsAdditiveTable(q, table)) },
	}
}

func coefficientCalls() map[string]listCall {
	return map[string]listCall{"AdditiveOf": impl.AdditiveOf}
}

// noCoefficients has lists of other lengths, and numbers that are no elements at each place.
func noCoefficients(q int) [][]int {
	k := modelOf(q).places
	var lists [][]int
	for n := range 10 {
		if n != k {
			lists = append(lists, make([]int, n), slices.Repeat([]int{1}, n), slices.Repeat([]int{q - 1}, n))
		}
	}
	lists = append(lists, nil, make([]int, 40), slices.Repeat([]int{1}, q+40))
	for _, a := range noElements(q) {
		for i := range k {
			list := slices.Repeat([]int{1}, k)
			list[i] = a
			lists = append(lists, list)
		}
	}
	return lists
}

// noDigits are outside of 0..p - 1, but some of them are elements.
func noDigits(q int) []int {
	p := modelOf(q).prime
	return []int{-1, p, p + 1, -p, q, math.MinInt, math.MinInt + 1, math.MaxInt - 1, math.MaxInt}
}

// noRows has too few and too many rows, single rows of other lengths, and wrong numbers at each place.
func noRows(q int) [][][]int {
	k := modelOf(q).places
	unit := func(n int) [][]int {
		var rows [][]int
		for range n {
			rows = append(rows, slices.Repeat([]int{1}, k))
		}
		return rows
	}
	all := [][][]int{nil, {}, unit(k - 1), unit(k + 1), unit(2 * k), unit(40), make([][]int, k), make([][]int, 100)}
	for i := range k {
		for _, row := range [][]int{nil, {}, make([]int, k-1), make([]int, k+1), slices.Repeat([]int{1}, k+1), make([]int, 2*k), make([]int, 40)} {
			rows := unit(k)
			rows[i] = row
			all = append(all, rows)
		}
		for j := range k {
			for _, d := range noDigits(q) {
				rows := unit(k)
				rows[i][j] = d
				all = append(all, rows)
			}
		}
	}
	return all
}

// longRows has far too many rows, and a row that is far too long.
func longRows(q int) [][][]int {
	k := modelOf(q).places
	row := slices.Repeat([]int{1}, k)
	return [][][]int{slices.Repeat([][]int{row}, 100000), append(slices.Repeat([][]int{row}, k-1), make([]int, 100000))}
}

func failsRows(t *testing.T, q int, rows [][]int) {
	t.Helper()
	if f, ok := impl.FromRows(q, rows); ok || len(f) != 0 {
		t.Errorf("FromRows(%d, %v) = %v, %v", q, rows[:min(len(rows), 5)], f, ok)
	}
}

func TestListsThatAreNoPolysAreNotAdditive(t *testing.T) {
	for _, q := range sizes {
		for _, calls := range []map[string]listCall{additiveCalls(), judgingCalls()} {
			failsLists(t, q, calls, noPolys(q))
			failsLists(t, q, calls, longLists)
		}
	}
}

func TestPolysThatAreNotAdditiveFail(t *testing.T) {
	for _, q := range sizes {
		polys := notAdditive(q)
		for c := 1; c < q; c++ {
			polys = append(polys, []int{c}, []int{c, 1})
		}
		failsLists(t, q, additiveCalls(), polys)
		for b := range q {
			for _, f := range allButMost(polys) {
				solutions, ok := impl.SolveAdditive(q, f, b)
				failsList(t, "SolveAdditive", solutions, ok, append([]int{q, b}, f...)...)
			}
		}
	}
}

// TestPermutingPolysThatAreNotAdditiveHaveNoAdditiveInverse has such for which InversePoly succeeds.
func TestPermutingPolysThatAreNotAdditiveHaveNoAdditiveInverse(t *testing.T) {
	for _, q := range sizes {
		m := modelPolysOfSize(q)
		var others [][]int
		for _, f := range permutingPolys(t, q) {
			if !m.keepsSums(m.table(f)) {
				others = append(others, f)
			}
		}
		if len(others) == 0 {
			t.Errorf("over %d all of them are additive", q)
		}
		failsLists(t, q, additiveCalls(), others)
	}
}

func TestListsThatAreNoTablesAreNotAdditive(t *testing.T) {
	for _, q := range sizes {
		failsLists(t, q, additiveTableCalls(), noTables(q))
		failsLists(t, q, additiveTableCalls(), longLists)
	}
}

func TestListsThatAreNoCoefficientsFail(t *testing.T) {
	for _, q := range sizes {
		failsLists(t, q, coefficientCalls(), noCoefficients(q))
		failsLists(t, q, coefficientCalls(), longLists)
	}
}

func TestRowsThatAreNoneFail(t *testing.T) {
	for _, q := range sizes {
		for _, rows := range slices.Concat(noRows(q), longRows(q)) {
			failsRows(t, q, rows)
		}
		for _, other := range sizes {
			if modelOf(other).places == modelOf(q).places {
				continue
			}
			for _, rows := range [][][]int{manyRows(other)[0], manyRows(other)[1]} {
				failsRows(t, q, rows)
			}
		}
	}
}

func TestNoElementsHaveNoTracesAndSolutions(t *testing.T) {
	for _, q := range sizes {
		for _, a := range noElements(q) {
			for _, pair := range [][2]int{{a, 0}, {0, a}, {a, 1}, {1, a}, {a, q - 1}, {a, a}} {
				trace, ok := impl.TracePair(q, pair[0], pair[1])
				failsNumber(t, "TracePair", trace, ok, q, pair[0], pair[1])
			}
			for _, f := range [][]int{nil, {0, 1}, {0, q - 1}, {1, 1}, {1}, {0}, {0, a}} {
				solutions, ok := impl.SolveAdditive(q, f, a)
				failsList(t, "SolveAdditive", solutions, ok, append([]int{q, a}, f...)...)
			}
		}
	}
}

func TestNoSizesHaveNoAdditiveMaps(t *testing.T) {
	lists := [][]int{nil, {0}, {1}, {0, 1}, {1, 1}, {1, 0}, {0, 0, 1}, {0, 0, 0}, {0, 0, 0, 0}, {-1}, {17}, identityTable(6), make([]int, 6), make([]int, 40)}
	for _, q := range noSizes {
		for _, calls := range []map[string]listCall{additiveCalls(), judgingCalls(), additiveTableCalls(), coefficientCalls()} {
			failsLists(t, q, calls, lists)
			if q > 0 && q < 40 {
				failsLists(t, q, calls, [][]int{identityTable(q), make([]int, q)})
			}
		}
		for _, rows := range [][][]int{nil, {}, {{}}, {{0}}, {{1}}, {{1, 0}, {0, 1}}, {{0, 0}, {0, 0}}, {{1, 0, 0}, {0, 1, 0}, {0, 0, 1}}, {nil, nil}} {
			failsRows(t, q, rows)
		}
		for _, pair := range [][2]int{{0, 0}, {0, 1}, {1, 0}, {1, 1}, {-1, 0}, {q, 0}, {q - 1, q - 1}} {
			trace, ok := impl.TracePair(q, pair[0], pair[1])
			failsNumber(t, "TracePair", trace, ok, q, pair[0], pair[1])
		}
		count, ok := impl.CountAdditive(q)
		failsNumber(t, "CountAdditive", count, ok, q)
		count, ok = impl.CountAdditivePermuting(q)
		failsNumber(t, "CountAdditivePermuting", count, ok, q)
	}
}

func TestLimitsOfAdditiveMapsAreMetExactly(t *testing.T) {
	f, ok := impl.AdditiveOf(16, []int{15, 15, 15, 15})
	wantList(t, "AdditiveOf", f, ok, 0, 15, 15, 0, 15, 0, 0, 0, 15)
	f, ok = impl.AdditiveOf(16, []int{0, 0, 0, 0})
	wantList(t, "AdditiveOf", f, ok)
	for _, q := range sizes {
		k, p := modelOf(q).places, modelOf(q).prime
		var rows [][]int
		for range k {
			rows = append(rows, slices.Repeat([]int{p - 1}, k))
		}
		f, ok := impl.FromRows(q, rows)
		wantPoly(t, "FromRows", q, f, ok, tableOfRows(q, rows))
		solutions, ok := impl.SolveAdditive(q, []int{0, 1}, q-1)
		wantList(t, fmt.Sprint("SolveAdditive ", q), solutions, ok, q-1)
		trace, ok := impl.TracePair(q, q-1, q-1)
		wantNumber(t, fmt.Sprint("TracePair ", q), trace, ok, modelPolysOfSize(q).tracePairs()[q-1][q-1])
		full := slices.Repeat([]int{1}, q)
		is, ok := impl.IsAdditive(q, full)
		wantAnswer(t, "IsAdditive", q, full, is, ok, false)
		is, ok = impl.IsMoved(q, full)
		wantAnswer(t, "IsMoved", q, full, is, ok, q == 2)
	}
}

func TestPolyZeroIsAdditive(t *testing.T) {
	for _, q := range sizes {
		for name, call := range additiveCalls() {
			for _, zero := range [][]int{nil, {}} {
				if _, ok := call(q, zero); ok == (name == "AdditiveInverse") {
					t.Errorf("%s of 0 over %d: %v", name, q, ok)
				}
			}
		}
	}
}

func TestNilAndEmptyListsAreAdditiveAlike(t *testing.T) {
	for _, q := range sizes {
		for _, calls := range []map[string]listCall{additiveCalls(), judgingCalls(), additiveTableCalls(), coefficientCalls()} {
			for name, call := range calls {
				first, ok := call(q, nil)
				second, okToo := call(q, []int{})
				if ok != okToo || !slices.Equal(first, second) {
					t.Errorf("%s over %d: %v, %v for nil, and %v, %v for an empty list", name, q, first, ok, second, okToo)
				}
			}
		}
	}
}

func TestArgumentsOfAdditiveMapsAndWhatIsBehindThemAreKept(t *testing.T) {
	for _, q := range sizes {
		m := modelPolysOfSize(q)
		polys := slices.Concat(allButMost(additivePolys(q)), allButMost(notAdditive(q)), allButMost(noPolys(q)))
		checkKept(t, q, additiveCalls(), polys)
		checkKept(t, q, judgingCalls(), polys)
		var tables [][]int
		for _, f := range allButMost(judgedPolys(q)) {
			tables = append(tables, m.table(f))
		}
		checkKept(t, q, additiveTableCalls(), append(tables, noTables(q)...))
		checkKept(t, q, coefficientCalls(), append(allButMost(coefficientLists(q)), noCoefficients(q)...))
	}
}

// allOfRows also has the rows and the numbers behind the lengths.
func allOfRows(rows [][]int) [][]int {
	var all [][]int
	for _, row := range rows[:cap(rows)] {
		all = append(all, append([]int{len(row)}, row[:cap(row)]...))
	}
	return all
}

// withMoreBehind lays numbers behind each row, and rows behind them all.
func withMoreBehind(rows [][]int, behind int) [][]int {
	var whole [][]int
	for _, row := range rows {
		whole = append(whole, append(slices.Clone(row), slices.Repeat([]int{behind}, 9)...)[:len(row)])
	}
	for range 9 {
		whole = append(whole, slices.Repeat([]int{behind}, len(rows)))
	}
	return whole[:len(rows)]
}

func TestRowsAndWhatIsBehindThemAreKept(t *testing.T) {
	for _, q := range sizes {
		valid := manyRows(q)
		for _, rows := range slices.Concat(valid[:min(len(valid), 100)], noRows(q)) {
			want, wantOk := impl.FromRows(q, copiedRows(rows))
			for _, behind := range []int{0, 1, -5} {
				whole := withMoreBehind(rows, behind)
				before := allOfRows(whole)
				got, ok := impl.FromRows(q, whole)
				if ok != wantOk || !slices.Equal(got, want) {
					t.Errorf("FromRows(%d, %v) = %v, %v with %d behind, want %v, %v", q, rows, got, ok, behind, want, wantOk)
				}
				overwrite(got)
				wantRows(t, fmt.Sprint("FromRows changed rows over ", q), allOfRows(whole), true, before...)
			}
		}
	}
}

// TestRowsMayShareMemory has the same list as each row.
func TestRowsMayShareMemory(t *testing.T) {
	for _, q := range sizes {
		k := modelOf(q).places
		row := slices.Repeat([]int{1}, k)
		rows := slices.Repeat([][]int{row}, k)
		f, ok := impl.FromRows(q, rows)
		wantPoly(t, "FromRows", q, f, ok, tableOfRows(q, rows))
		wantList(t, "the row", row, true, slices.Repeat([]int{1}, k)...)
	}
}

func TestListsOfAdditiveMapsAreNewEachTime(t *testing.T) {
	for _, q := range sizes {
		for _, f := range allButMost(additivePolys(q)) {
			for name, call := range additiveCalls() {
				if _, ok := call(q, f); ok {
					checkNew(t, fmt.Sprint(name, " ", q, f), func() ([]int, bool) { return call(q, f) })
				}
			}
			checkNewRows(t, fmt.Sprint("RowsOf ", q, f), func() ([][]int, bool) { return impl.RowsOf(q, f) })
		}
		for _, coefficients := range allButMost(coefficientLists(q)) {
			checkNew(t, fmt.Sprint("AdditiveOf ", q), func() ([]int, bool) { return impl.AdditiveOf(q, coefficients) })
		}
		for _, rows := range manyRows(q)[:2] {
			checkNew(t, fmt.Sprint("FromRows ", q), func() ([]int, bool) { return impl.FromRows(q, rows) })
		}
	}
}
