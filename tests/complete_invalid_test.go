package tests

import (
	"fmt"
	"math"
	"slices"
	"testing"

	"loop.example/g01163/impl"
)

// completeCalls fail for polynomials that are not complete.
func completeCalls() map[string]listCall {
	return map[string]listCall{
		"InverseComplete":         impl.InverseComplete,
		"MoveComplete, no change": func(q int, f []int) ([]int, bool) { return impl.MoveComplete(q, f, 0, 0) },
		"MoveComplete, change":    func(q int, f []int) ([]int, bool) { return impl.MoveComplete(q, f, 1, q-1) },
		"NegatedInverse":          impl.NegatedInverse,
	}
}

// anyPolyCalls succeed for all polynomials.
func anyPolyCalls() map[string]listCall {
	return map[string]listCall{
		"IsComplete": func(q int, f []int) ([]int, bool) { return yesAsList(impl.IsComplete(q, f)) },
		"PlusX":      impl.PlusX,
	}
}

// squareCalls fail for polynomials that do not permute.
func squareCalls() map[string]listCall {
	return map[string]listCall{"SquareOfMap": func(q int, f []int) ([]int, bool) { return rowsAsList(impl.SquareOfMap(q, f)) }}
}

func rankCalls() map[string]listCall {
	return map[string]listCall{"RankComplete": func(q int, table []int) ([]int, bool) { return asList(impl.RankComplete(q, table)) }}
}

func allCompleteCalls() []map[string]listCall {
	return []map[string]listCall{completeCalls(), anyPolyCalls(), squareCalls(), rankCalls()}
}

func failsComplete(t *testing.T, q, rank int) {
	t.Helper()
	table, ok := impl.CompleteWith(q, rank)
	failsList(t, "CompleteWith", table, ok, q, rank)
}

func failsMoveComplete(t *testing.T, q int, f []int, a, b int) {
	t.Helper()
	moved, ok := impl.MoveComplete(q, f, a, b)
	failsList(t, "MoveComplete", moved, ok, append([]int{q, a, b}, f...)...)
}

func failsWaysComplete(t *testing.T, q, a, b int) {
	t.Helper()
	complete, ok := impl.WaysComplete(q, a, b)
	failsAnswer(t, "WaysComplete", complete, ok, q, a, b)
}

func failsCountWaysComplete(t *testing.T, q int) {
	t.Helper()
	count, ok := impl.CountWaysComplete(q)
	failsNumber(t, "CountWaysComplete", count, ok, q)
}

// failsSquares has the rows in both places, beside a square and beside themselves.
func failsSquares(t *testing.T, square, rows [][]int) {
	t.Helper()
	for _, pair := range [][2][][]int{{rows, square}, {square, rows}, {rows, rows}} {
		if are, ok := impl.AreOrthogonal(pair[0], pair[1]); are || ok {
			t.Errorf("AreOrthogonal(%v, %v) = %v, %v", pair[0][:min(len(pair[0]), 20)], pair[1][:min(len(pair[1]), 20)], are, ok)
		}
	}
}

// withNumber has another number at one place.
func withNumber(rows [][]int, x, y, a int) [][]int {
	changed := copiedRows(rows)
	changed[x][y] = a
	return changed
}

// withRow has another row at one place.
func withRow(rows [][]int, x int, row []int) [][]int {
	changed := copiedRows(rows)
	changed[x] = row
	return changed
}

// wrongRows have one row of another length, or without numbers, or one row too few or too many.
func wrongRows(square [][]int) [][][]int {
	n := len(square)
	all := [][][]int{square[:n-1], square[1:], append(copiedRows(square), square[0]), append(copiedRows(square), nil), append(copiedRows(square), square...), make([][]int, n)}
	for x, row := range square {
		for _, other := range [][]int{nil, {}, row[:n-1], row[1:], append(slices.Clone(row), row[0]), append(slices.Clone(row), n), append(slices.Clone(row), row...)} {
			all = append(all, withRow(square, x, other))
		}
		all = append(all, slices.Delete(copiedRows(square), x, x+1), slices.Insert(copiedRows(square), x, slices.Clone(row)))
	}
	return all
}

// wrongNumbers have at one place a number that is no element, or one element more than once, and squares of other elements than 0, 1, .., n - 1.
func wrongNumbers(square [][]int) [][][]int {
	n := len(square)
	var all [][][]int
	for x := range n {
		for y := range n {
			for _, a := range append(noElements(n), n*n, 255, 256+square[x][y], square[x][y]-256, square[x][y]+1<<32) {
				if a < 0 || a >= n {
					all = append(all, withNumber(square, x, y, a))
				}
			}
			for a := range n {
				if a != square[x][y] {
					all = append(all, withNumber(square, x, y, a))
				}
			}
		}
	}
	for _, a := range noElements(n) {
		for element := range n {
			elements := identityTable(n)
			elements[element] = a
			all = append(all, renamed(square, identityTable(n), identityTable(n), elements))
		}
	}
	return all
}

// linesWithElementsTwice have all rows right, or all columns, but not both.
func linesWithElementsTwice(square [][]int) [][][]int {
	n := len(square)
	var all [][][]int
	for x := range n {
		for y := range x {
			swapped, equal := copiedRows(square), copiedRows(square)
			swapped[0][x], swapped[0][y] = swapped[0][y], swapped[0][x]
			copy(equal[x], equal[y])
			all = append(all, swapped, turned(swapped), equal, turned(equal))
		}
	}
	alike := slices.Repeat([][]int{identityTable(n)}, n)
	constant := slices.Repeat([][]int{slices.Repeat([]int{n - 1}, n)}, n)
	if n > 1 {
		all = append(all, alike, turned(alike), constant)
	}
	return all
}

// noSquares has lists of rows that are no squares of n elements. Of the wrong numbers in great squares it has samples.
func noSquares(n int) [][][]int {
	square := renamed(linesSquare(n, 1, 1), mixed(n, 1), mixed(n, 2), mixed(n, 3))
	all, numbers := slices.Concat(wrongRows(square), linesWithElementsTwice(square)), wrongNumbers(square)
	for i := 0; i < len(numbers); i += len(numbers)/2000 + 1 {
		all = append(all, numbers[i])
	}
	return all
}

func mixed(n, start int) []int {
	mix := mixer(start)
	return mix.permutation(n)
}

func TestListsThatAreNoPolysAreNotComplete(t *testing.T) {
	for _, q := range sizes {
		for _, calls := range []map[string]listCall{completeCalls(), anyPolyCalls(), squareCalls()} {
			failsLists(t, q, calls, noPolys(q))
			failsLists(t, q, calls, longLists)
		}
		for _, f := range noPolys(q) {
			for _, a := range []int{0, 1, q - 1, q} {
				failsMoveComplete(t, q, f, a, a)
			}
		}
	}
}

func TestPolysThatAreNotCompleteFail(t *testing.T) {
	for _, q := range sizes {
		m := modelPolysOfSize(q)
		polys := slices.Concat(polysOf(t, q, nearlyComplete(q)), allButMost(manyPolys(q)), [][]int{nil, {}, {1}, {q - 1}, {0, m.less(0, 1)}})
		polys = slices.DeleteFunc(polys, func(f []int) bool { return m.isComplete(m.table(f)) })
		failsLists(t, q, completeCalls(), polys)
		for _, f := range allButMost(polys) {
			for a := range q {
				failsMoveComplete(t, q, f, a, 0)
				failsMoveComplete(t, q, f, 0, a)
			}
		}
	}
}

// TestNoPolyOverTheFieldOfTwoIsComplete has all of them.
func TestNoPolyOverTheFieldOfTwoIsComplete(t *testing.T) {
	polys := [][]int{nil, {1}, {0, 1}, {1, 1}}
	failsLists(t, 2, completeCalls(), polys)
	for _, f := range polys {
		is, ok := impl.IsComplete(2, f)
		wantAnswer(t, "IsComplete", 2, f, is, ok, false)
	}
	count, ok := impl.CountComplete(2)
	wantNumber(t, "CountComplete", count, ok, 0)
	linear, ok := impl.CompleteLinear(2)
	wantList(t, "CompleteLinear", linear, ok)
	failsComplete(t, 2, 0)
	failsLists(t, 2, rankCalls(), allLists(2, 2))
}

func TestPolysThatDoNotPermuteHaveNoSquare(t *testing.T) {
	for _, q := range sizes {
		m := modelPolysOfSize(q)
		polys := slices.Concat(mixedPolys(t, q), polysOf(t, q, nearlyComplete(q)), [][]int{nil, {}, {1}, {q - 1}})
		failsLists(t, q, squareCalls(), slices.DeleteFunc(polys, func(f []int) bool { return isPermutation(m.table(f)) }))
	}
}

func TestMovesByNoElementsFail(t *testing.T) {
	for _, q := range sizes {
		complete := completePolys(t, q)
		if len(complete) == 0 {
			continue
		}
		for _, f := range allButMost(complete) {
			for _, a := range noElements(q) {
				for _, b := range []int{0, 1, q - 1, a} {
					failsMoveComplete(t, q, f, a, b)
					failsMoveComplete(t, q, f, b, a)
				}
			}
		}
	}
}

func TestListsThatAreNoTablesHaveNoRank(t *testing.T) {
	for _, q := range searchedSizes {
		m := modelPolysOfSize(q)
		failsLists(t, q, rankCalls(), noTables(q))
		failsLists(t, q, rankCalls(), longLists)
		lists := slices.Concat(allButMost(nearlyComplete(q)), [][]int{slices.Repeat([]int{0}, q)})
		for _, table := range m.fixedComplete() {
			// Sums with an element are complete, but not fixed.
			lists = append(lists, m.plusConstant(table, 1), m.plusConstant(table, q-1))
			lists = append(lists, table[:q-1], table[1:], append(slices.Clone(table), 0), append(slices.Clone(table), table...))
			for _, a := range []int{q, -1} {
				changed := slices.Clone(table)
				changed[slices.Index(table, q-1)] = a
				lists = append(lists, changed)
			}
		}
		failsLists(t, q, rankCalls(), lists)
	}
}

func TestRanksThatThereAreNotFail(t *testing.T) {
	for _, q := range searchedSizes {
		count := len(modelPolysOfSize(q).fixedComplete())
		for _, rank := range []int{-1, -2, -count - 1, count, count + 1, count + 2, 2*count + 1, 1000, 1 << 32, 1<<32 + 1, math.MinInt, math.MinInt + 1, math.MaxInt - 1, math.MaxInt} {
			failsComplete(t, q, rank)
		}
	}
}

func TestGreaterSizesAreNotSearched(t *testing.T) {
	for _, q := range []int{9, 11, 13, 16} {
		count, ok := impl.CountComplete(q)
		failsNumber(t, "CountComplete", count, ok, q)
		for _, rank := range []int{-1, 0, 1, 2, 100} {
			failsComplete(t, q, rank)
		}
		failsLists(t, q, rankCalls(), slices.Concat(allButMost(completeTables(q)), [][]int{identityTable(q), make([]int, q)}))
	}
}

func TestEvenSizesHaveNoWays(t *testing.T) {
	for _, q := range evenSizes() {
		failsCountWaysComplete(t, q)
		for a := range q {
			for b := range q {
				failsWaysComplete(t, q, a, b)
			}
		}
	}
}

func TestWaysOfNoElementsFail(t *testing.T) {
	for _, q := range sizes {
		for _, a := range noElements(q) {
			for _, b := range []int{0, 1, q - 1, q, a} {
				failsWaysComplete(t, q, a, b)
				failsWaysComplete(t, q, b, a)
			}
		}
	}
}

func TestNoSizesHaveNothingComplete(t *testing.T) {
	lists := [][]int{nil, {0}, {1}, {0, 1}, {1, 1}, {1, 0}, {0, 0, 1}, {-1}, {17}, identityTable(6), make([]int, 6), make([]int, 40)}
	for _, q := range noSizes {
		for _, calls := range allCompleteCalls() {
			failsLists(t, q, calls, lists)
			if q > 0 && q < 40 {
				failsLists(t, q, calls, [][]int{identityTable(q), make([]int, q)})
			}
		}
		linear, ok := impl.CompleteLinear(q)
		failsList(t, "CompleteLinear", linear, ok, q)
		count, ok := impl.CountComplete(q)
		failsNumber(t, "CountComplete", count, ok, q)
		failsCountWaysComplete(t, q)
		for _, a := range []int{-1, 0, 1, 2, q - 1, q} {
			failsComplete(t, q, a)
			failsWaysComplete(t, q, a, 1)
			failsWaysComplete(t, q, 1, a)
			failsMoveComplete(t, q, []int{0, 1}, a, 0)
			failsMoveComplete(t, q, []int{0, 1}, 0, a)
		}
	}
}

func TestRowsThatAreNoSquaresAreNotOrthogonal(t *testing.T) {
	for n := 1; n <= 16; n++ {
		square := linesSquare(n, 1, 1)
		for _, rows := range noSquares(n) {
			if isSquare(rows) && len(rows) > 0 {
				t.Fatalf("%v is a square", rows)
			}
			failsSquares(t, square, rows)
		}
	}
}

func TestSquaresOfOtherNumbersOfElementsFail(t *testing.T) {
	for n := 1; n <= 16; n++ {
		for other := range 20 {
			if other == n {
				continue
			}
			first, second := linesSquare(n, 1, 1), linesSquare(other, 1, 1)
			for _, pair := range [][2][][]int{{first, second}, {second, first}} {
				are, ok := impl.AreOrthogonal(pair[0], pair[1])
				failsAnswer(t, "AreOrthogonal", are, ok, len(pair[0]), len(pair[1]))
			}
		}
	}
}

// TestLimitsOfSquaresAreMetExactly has squares of 1 and of 16 elements, none, and too great ones.
func TestLimitsOfSquaresAreMetExactly(t *testing.T) {
	for n := 1; n <= 16; n++ {
		if _, ok := impl.AreOrthogonal(linesSquare(n, 1, 1), linesSquare(n, 1, 1)); !ok {
			t.Errorf("AreOrthogonal fails for %d elements", n)
		}
	}
	for _, n := range []int{17, 18, 19, 25, 32, 64} {
		first, second := linesSquare(n, 1, 1), linesSquare(n, n-1, 1)
		failsSquares(t, first, second)
	}
	failsSquares(t, nil, nil)
	failsSquares(t, nil, [][]int{})
	failsSquares(t, [][]int{{0}}, nil)
	failsSquares(t, [][]int{{0}}, [][]int{})
	failsSquares(t, [][]int{{0}}, [][]int{nil})
	failsSquares(t, [][]int{{0}}, [][]int{{1}})
	failsSquares(t, [][]int{{0}}, [][]int{{-1}})
	failsSquares(t, [][]int{{0}}, [][]int{{0, 0}})
	failsSquares(t, linesSquare(4, 1, 1), make([][]int, 100000))
	failsSquares(t, linesSquare(4, 1, 1), withRow(linesSquare(4, 1, 1), 2, make([]int, 100000)))
}

// TestLimitsOfCompletePolysAreMetExactly has the least and the greatest elements, and polynomials with as many coefficients as can be.
func TestLimitsOfCompletePolysAreMetExactly(t *testing.T) {
	for _, q := range sizes {
		m, full := modelPolysOfSize(q), slices.Repeat([]int{q - 1}, q)
		plus, ok := impl.PlusX(q, full)
		wantPoly(t, "PlusX", q, plus, ok, m.plusIdentity(m.table(full)))
		is, ok := impl.IsComplete(q, full)
		wantAnswer(t, "IsComplete", q, full, is, ok, false)
		for _, table := range completeTables(q) {
			f := polysOf(t, q, [][]int{table})[0]
			moved, ok := impl.MoveComplete(q, f, q-1, q-1)
			wantPoly(t, fmt.Sprint("MoveComplete ", f), q, moved, ok, m.movedBy(table, q-1, q-1))
		}
		if q%2 == 0 {
			continue
		}
		for _, pair := range [][2]int{{q - 1, q - 1}, {0, 0}, {0, q - 1}, {q - 1, 0}, {1, q - 1}} {
			complete, ok := impl.WaysComplete(q, pair[0], pair[1])
			wantYes(t, fmt.Sprint("WaysComplete ", q, pair), complete, ok, m.isComplete(m.squareWays(pair[0], pair[1])))
		}
	}
}

func TestPolyZeroIsNotComplete(t *testing.T) {
	for _, q := range sizes {
		for _, zero := range [][]int{nil, {}} {
			plus, ok := impl.PlusX(q, zero)
			wantList(t, "PlusX of 0", plus, ok, 0, 1)
			is, ok := impl.IsComplete(q, zero)
			wantAnswer(t, "IsComplete", q, zero, is, ok, false)
			failsLists(t, q, completeCalls(), [][]int{zero})
			failsLists(t, q, squareCalls(), [][]int{zero})
			failsLists(t, q, rankCalls(), [][]int{zero})
		}
	}
}

func TestArgumentsOfCompletePolysAndWhatIsBehindThemAreKept(t *testing.T) {
	for _, q := range sizes {
		polys := slices.Concat(ordinaryPolys(q), polysOf(t, q, allButMost(nearlyComplete(q))), allButMost(noPolys(q)))
		tables := slices.Concat(allButMost(nearlyComplete(q)), noTables(q))
		if complete := completeTables(q); len(complete) > 0 {
			polys = append(polys, polysOf(t, q, allButMost(complete))...)
			tables = append(tables, allButMost(complete)...)
		}
		for _, calls := range []map[string]listCall{completeCalls(), anyPolyCalls(), squareCalls()} {
			checkKept(t, q, calls, polys)
		}
		checkKept(t, q, rankCalls(), tables)
	}
}

// checkSquaresKept compares also what is behind the rows, and behind the numbers of each row.
func checkSquaresKept(t *testing.T, first, second [][]int) {
	t.Helper()
	want, wantOk := impl.AreOrthogonal(copiedRows(first), copiedRows(second))
	for _, behind := range []int{0, 1, -5} {
		one, other := withMoreBehind(first, behind), withMoreBehind(second, behind)
		before, beforeOther := allOfRows(one), allOfRows(other)
		are, ok := impl.AreOrthogonal(one, other)
		if are != want || ok != wantOk {
			t.Errorf("AreOrthogonal(%v, %v) = %v, %v with %d behind, want %v, %v", first, second, are, ok, behind, want, wantOk)
		}
		wantRows(t, "AreOrthogonal changed its first rows", allOfRows(one), true, before...)
		wantRows(t, "AreOrthogonal changed its second rows", allOfRows(other), true, beforeOther...)
	}
}

func TestSquaresAndWhatIsBehindThemAreKept(t *testing.T) {
	for n := 1; n <= 16; n++ {
		pairs := squarePairs(n)
		for _, pair := range pairs[:min(len(pairs), 40)] {
			checkSquaresKept(t, pair[0], pair[1])
		}
		square, wrong := linesSquare(n, 1, 1), noSquares(n)
		for i := 0; i < len(wrong); i += len(wrong)/100 + 1 {
			checkSquaresKept(t, square, wrong[i])
			checkSquaresKept(t, wrong[i], square)
		}
	}
}

// TestSquaresMayShareMemory has the rows of one square in another one, and the numbers of all rows in one list.
func TestSquaresMayShareMemory(t *testing.T) {
	for n := 2; n <= 16; n++ {
		square := linesSquare(n, 1, 1)
		whole := slices.Concat(square...)
		before := slices.Clone(whole)
		var rows [][]int
		for x := range n {
			rows = append(rows, whole[n*x:n*x+n])
		}
		mix := mixer(n)
		other := withSwappedRows(&mix, rows)
		wantOrthogonal(t, rows, rows, false)
		wantOrthogonal(t, rows, other, areOrthogonal(rows, other))
		backwards := slices.Clone(rows)
		slices.Reverse(backwards)
		wantOrthogonal(t, rows, backwards, areOrthogonal(rows, backwards))
		wantList(t, "the numbers", whole, true, before...)
	}
}

func TestListsOfCompletePolysAreNewEachTime(t *testing.T) {
	for _, q := range sizes {
		checkNew(t, fmt.Sprint("CompleteLinear ", q), func() ([]int, bool) { return impl.CompleteLinear(q) })
		for _, f := range slices.Concat(ordinaryPolys(q), completePolys(t, q)) {
			for _, calls := range []map[string]listCall{completeCalls(), anyPolyCalls()} {
				for name, call := range calls {
					if _, ok := call(q, f); ok {
						checkNew(t, fmt.Sprint(name, " ", q, f), func() ([]int, bool) { return call(q, f) })
					}
				}
			}
			if _, ok := impl.SquareOfMap(q, f); ok {
				checkNewRows(t, fmt.Sprint("SquareOfMap ", q, f), func() ([][]int, bool) { return impl.SquareOfMap(q, f) })
			}
		}
	}
	for _, q := range searchedSizes {
		for rank := range writtenCounts[q] {
			checkNew(t, fmt.Sprint("CompleteWith ", q, rank), func() ([]int, bool) { return impl.CompleteWith(q, rank) })
		}
	}
}
