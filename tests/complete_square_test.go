package tests

import (
	"fmt"
	"slices"
	"testing"

	"loop.example/g01163/impl"
)

// wantOrthogonal asks in both orders.
func wantOrthogonal(t *testing.T, first, second [][]int, want bool) {
	t.Helper()
	for _, order := range [][2][][]int{{first, second}, {second, first}} {
		are, ok := impl.AreOrthogonal(order[0], order[1])
		if are != want || !ok {
			t.Errorf("AreOrthogonal(%v, %v) = %v, %v, want %v", order[0], order[1], are, ok, want)
		}
	}
}

func TestSquaresOfMapsHaveTheRowsTold(t *testing.T) {
	for _, q := range sizes {
		m := modelPolysOfSize(q)
		for _, table := range slices.Concat(manyPermutations(q), completeTables(q)) {
			f := polysOf(t, q, [][]int{table})[0]
			rows, ok := impl.SquareOfMap(q, f)
			wantRows(t, fmt.Sprint("SquareOfMap ", q, f), rows, ok, m.squareOf(table)...)
			if !isSquare(rows) {
				t.Errorf("SquareOfMap(%d, %v) = %v is no square", q, f, rows)
			}
		}
	}
}

// TestSquaresOfCompletePolysFitThatOfMinusX asks for polynomials that permute alone: others have no square.
func TestSquaresOfCompletePolysFitThatOfMinusX(t *testing.T) {
	rows, yes := must[[][]int](t), must[bool](t)
	for _, q := range sizes {
		m, met := modelPolysOfSize(q), map[bool]int{}
		minus := []int{0, m.less(0, 1)}
		other := rows(impl.SquareOfMap(q, minus))
		for _, table := range slices.Concat(manyPermutations(q), completeTables(q), nearlyComplete(q)) {
			if !isPermutation(table) {
				continue
			}
			f := polysOf(t, q, [][]int{table})[0]
			square := rows(impl.SquareOfMap(q, f))
			want := m.isComplete(table)
			met[want]++
			wantOrthogonal(t, square, other, want)
			if are := areOrthogonal(square, other); are != want || are != yes(impl.IsComplete(q, f)) {
				t.Errorf("the squares of %v and of -x over %d are told in two ways", f, q)
			}
		}
		if met[true] == 0 && q > 2 || met[false] == 0 {
			t.Errorf("the polynomials over %d are complete as often as %v", q, met)
		}
	}
}

// TestLinesOfAFieldAreOrthogonal has the squares of a x and of b x for all a and b other than 0.
func TestLinesOfAFieldAreOrthogonal(t *testing.T) {
	rows := must[[][]int](t)
	for _, q := range sizes {
		for a := 1; a < q; a++ {
			for b := 1; b < q; b++ {
				wantOrthogonal(t, rows(impl.SquareOfMap(q, []int{0, a})), rows(impl.SquareOfMap(q, []int{0, b})), a != b)
			}
		}
	}
}

// TestSmallSquaresAreComparedWithASearch has all pairs, and how many of these are orthogonal.
func TestSmallSquaresAreComparedWithASearch(t *testing.T) {
	for n, written := range map[int][2]int{1: {1, 1}, 2: {2, 0}, 3: {12, 72}, 4: {576, 6912}} {
		squares, count := allSquares(n), 0
		for _, first := range squares {
			for _, second := range squares {
				are, ok := impl.AreOrthogonal(first, second)
				if are != areOrthogonal(first, second) || !ok {
					t.Fatalf("AreOrthogonal(%v, %v) = %v, %v", first, second, are, ok)
				}
				if are {
					count++
				}
			}
		}
		if len(squares) != written[0] || count != written[1] {
			t.Errorf("%d squares of %d elements make %d orthogonal pairs", len(squares), n, count)
		}
	}
}

func TestSquaresAreComparedWithASearch(t *testing.T) {
	for n := 1; n <= 16; n++ {
		met := map[bool]int{}
		for _, pair := range squarePairs(n) {
			if !isSquare(pair[0]) || !isSquare(pair[1]) {
				t.Fatalf("%v are no squares", pair)
			}
			want := areOrthogonal(pair[0], pair[1])
			met[want]++
			wantOrthogonal(t, pair[0], pair[1], want)
		}
		// No squares of 2 and of 6 elements are orthogonal. Those of 10 and of 14 that are so are not among the basic ones.
		hasPair := n%2 == 1 || n%4 == 0
		if (met[true] > 0) != hasPair || met[false] == 0 && n > 1 {
			t.Errorf("the pairs of %d elements are orthogonal as often as %v", n, met)
		}
	}
}

// TestOrthogonalSquaresStayThatIfRenamed has other orders of the rows and of the columns, the same for both, and of the elements.
func TestOrthogonalSquaresStayThatIfRenamed(t *testing.T) {
	for n := 3; n <= 16; n += 2 {
		mix := mixer(n)
		first, second := linesSquare(n, 1, 1), linesSquare(n, 1, n-1)
		for range 20 {
			rows, columns := mix.permutation(n), mix.permutation(n)
			wantOrthogonal(t, renamed(first, rows, columns, mix.permutation(n)), renamed(second, rows, columns, mix.permutation(n)), true)
		}
	}
}

func TestWrittenSquares(t *testing.T) {
	rows, ok := impl.SquareOfMap(3, []int{0, 2})
	wantRows(t, "SquareOfMap", rows, ok, []int{0, 1, 2}, []int{2, 0, 1}, []int{1, 2, 0})
	rows, ok = impl.SquareOfMap(2, []int{1, 1})
	wantRows(t, "SquareOfMap", rows, ok, []int{1, 0}, []int{0, 1})
	rows, ok = impl.SquareOfMap(4, []int{0, 2})
	wantRows(t, "SquareOfMap", rows, ok, []int{0, 1, 2, 3}, []int{2, 3, 0, 1}, []int{3, 2, 1, 0}, []int{1, 0, 3, 2})
	three := [][]int{{0, 1, 2}, {1, 2, 0}, {2, 0, 1}}
	wantOrthogonal(t, three, [][]int{{0, 1, 2}, {2, 0, 1}, {1, 2, 0}}, true)
	wantOrthogonal(t, three, [][]int{{2, 0, 1}, {0, 1, 2}, {1, 2, 0}}, false)
	wantOrthogonal(t, three, three, false)
	wantOrthogonal(t, [][]int{{0}}, [][]int{{0}}, true)
	wantOrthogonal(t, [][]int{{0, 1}, {1, 0}}, [][]int{{1, 0}, {0, 1}}, false)
	six := linesSquare(6, 1, 1)
	wantOrthogonal(t, six, linesSquare(6, 5, 1), false)
	fifteen := linesSquare(15, 1, 1)
	wantOrthogonal(t, fifteen, linesSquare(15, 2, 1), true)
	wantOrthogonal(t, fifteen, linesSquare(15, 4, 1), false)
}
