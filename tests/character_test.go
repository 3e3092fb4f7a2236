package tests

import (
	"fmt"
	"slices"
	"testing"

	"loop.example/g01163/impl"
)

// pointedPolys has all polynomials where these are not too many, and otherwise also all constants, all x + a, powers, and such whose values have one character alone or two.
func pointedPolys(t *testing.T, q int) [][]int {
	t.Helper()
	if q <= 5 {
		return manyPolys(q)
	}
	m := modelPolysOfSize(q)
	var polys [][]int
	for a := range q {
		polys = append(polys, withoutZeros([]int{a}), []int{a, 1}, m.reduced([]int{a, 0, q - 1}))
	}
	other := m.leastOther()
	ways := [][]int{m.squareWays(1, other), m.squareWays(other, 1), m.squareWays(0, 1), m.squareWays(other, 0)}
	return slices.Concat(polys, manyPolys(q), powerPolys(q), polysOf(t, q, ways))
}

func TestCharactersTellSquares(t *testing.T) {
	for _, q := range oddSizes() {
		m, met := modelPolysOfSize(q), map[int]int{}
		for a := range q {
			character, ok := impl.CharacterOf(q, a)
			wantNumber(t, fmt.Sprint("CharacterOf ", q, a), character, ok, m.character(a))
			met[character]++
		}
		if met[0] != 1 || met[1] != (q-1)/2 || met[-1] != (q-1)/2 {
			t.Errorf("the characters over %d come as often as %v", q, met)
		}
	}
}

func TestCharactersOfProductsAreProducts(t *testing.T) {
	number := must[int](t)
	for _, q := range oddSizes() {
		for a := range q {
			for b := range q {
				got, ok := impl.CharacterOf(q, number(impl.TimesOf(q, a, b)))
				wantNumber(t, fmt.Sprint("CharacterOf a product ", q, a, b), got, ok, number(impl.CharacterOf(q, a))*number(impl.CharacterOf(q, b)))
			}
		}
	}
}

func TestPointsAreThoseOfASearch(t *testing.T) {
	for _, q := range oddSizes() {
		m := modelPolysOfSize(q)
		other := m.leastOther()
		for _, f := range pointedPolys(t, q) {
			of, table := fmt.Sprint(q, f), m.table(f)
			found := m.pointsWith(1, table)
			sum, ok := impl.CharacterSum(q, f)
			wantNumber(t, "CharacterSum "+of, sum, ok, m.characterSum(table))
			count, ok := impl.CountPoints(q, f)
			wantNumber(t, "CountPoints "+of, count, ok, len(found))
			wantNumber(t, "CountPoints less q "+of, count-q, ok, sum)
			points, ok := impl.PointsOf(q, f)
			wantRows(t, "PointsOf "+of, points, ok, found...)
			twist, ok := impl.TwistPoints(q, f)
			wantNumber(t, "TwistPoints "+of, twist, ok, len(m.pointsWith(other, table)))
			wantNumber(t, "CountPoints and TwistPoints "+of, count+twist, ok, 2*q)
		}
	}
}

// TestSumsAreThoseOfCharactersOfValues asks the program alone.
func TestSumsAreThoseOfCharactersOfValues(t *testing.T) {
	list, number := must[[]int](t), must[int](t)
	for _, q := range oddSizes() {
		for _, f := range allButMost(pointedPolys(t, q)) {
			want := 0
			for _, value := range list(impl.TableOf(q, f)) {
				want += number(impl.CharacterOf(q, value))
			}
			sum, ok := impl.CharacterSum(q, f)
			wantNumber(t, fmt.Sprint("CharacterSum ", q, f), sum, ok, want)
		}
	}
}

// TestSumsGoFromTheLeastToTheGreatest has all values with one character: all points or none.
func TestSumsGoFromTheLeastToTheGreatest(t *testing.T) {
	for _, q := range oddSizes() {
		m := modelPolysOfSize(q)
		for a := range q {
			f, want := withoutZeros([]int{a}), q*m.character(a)
			sum, ok := impl.CharacterSum(q, f)
			wantNumber(t, fmt.Sprint("CharacterSum ", q, f), sum, ok, want)
			count, ok := impl.CountPoints(q, f)
			wantNumber(t, fmt.Sprint("CountPoints ", q, f), count, ok, q+want)
			twist, ok := impl.TwistPoints(q, f)
			wantNumber(t, fmt.Sprint("TwistPoints ", q, f), twist, ok, q-want)
		}
	}
}

func TestQuadraticSumsAreSumsOfCharacters(t *testing.T) {
	number := must[int](t)
	for _, q := range oddSizes() {
		m, met := modelPolysOfSize(q), map[int]int{}
		for a := 1; a < q; a++ {
			for b := range q {
				for c := range q {
					f := []int{c, b, a}
					sum, ok := impl.QuadraticSum(q, a, b, c)
					wantNumber(t, fmt.Sprint("QuadraticSum ", q, a, b, c), sum, ok, m.characterSum(m.table(f)))
					wantNumber(t, fmt.Sprint("QuadraticSum and CharacterSum ", q, f), sum, ok, number(impl.CharacterSum(q, f)))
					met[sum]++
				}
			}
		}
		half := (q - 1) / 2 * q
		if len(met) != 4 || met[q-1] != half || met[1-q] != half || met[1] != half*(q-1) || met[-1] != half*(q-1) {
			t.Errorf("the quadratic sums over %d come as often as %v", q, met)
		}
	}
}

func TestSquareSumsAreCounted(t *testing.T) {
	for _, q := range oddSizes() {
		m := modelPolysOfSize(q)
		found := make([]int, q)
		for x := range q {
			for y := range q {
				found[m.sums[m.products[x][x]][m.products[y][y]]]++
			}
		}
		for c := range q {
			count, ok := impl.CountSquareSums(q, c)
			wantNumber(t, fmt.Sprint("CountSquareSums ", q, c), count, ok, found[c])
		}
	}
}

func TestRunsAreCounted(t *testing.T) {
	number := must[int](t)
	for _, q := range oddSizes() {
		m := modelPolysOfSize(q)
		all := 0
		for _, pair := range [][2]int{{1, 1}, {1, -1}, {-1, 1}, {-1, -1}} {
			found, called := 0, 0
			for x := range q {
				next := m.sums[x][1]
				if m.character(x) == pair[0] && m.character(next) == pair[1] {
					found++
				}
				if number(impl.CharacterOf(q, x)) == pair[0] && number(impl.CharacterOf(q, next)) == pair[1] {
					called++
				}
			}
			count, ok := impl.CountRuns(q, pair[0], pair[1])
			wantNumber(t, fmt.Sprint("CountRuns ", q, pair), count, ok, found)
			wantNumber(t, fmt.Sprint("CountRuns by CharacterOf ", q, pair), count, ok, called)
			all += count
		}
		// All x but 0 and -1 have one of the pairs.
		if all != q-2 {
			t.Errorf("there are %d runs over %d", all, q)
		}
	}
}

func TestShiftedSumsAreSumsOfProducts(t *testing.T) {
	for _, q := range oddSizes() {
		m := modelPolysOfSize(q)
		for a := range q {
			want := 0
			for x := range q {
				want += m.character(x) * m.character(m.sums[x][a])
			}
			sum, ok := impl.ShiftedSum(q, a)
			wantNumber(t, fmt.Sprint("ShiftedSum ", q, a), sum, ok, want)
			if a != 0 {
				wantNumber(t, fmt.Sprint("ShiftedSum ", q, a), sum, ok, -1)
			}
		}
		sum, ok := impl.ShiftedSum(q, 0)
		wantNumber(t, fmt.Sprint("ShiftedSum by 0 ", q), sum, ok, q-1)
	}
}

func TestExamplesOfCharacters(t *testing.T) {
	for a, want := range []int{0, 1, -1, -1, 1} {
		character, ok := impl.CharacterOf(5, a)
		wantNumber(t, fmt.Sprint("CharacterOf ", a), character, ok, want)
	}
	f := []int{0, 1, 0, 1}
	points, ok := impl.PointsOf(5, f)
	wantRows(t, "PointsOf", points, ok, []int{0, 0}, []int{2, 0}, []int{3, 0})
	sum, ok := impl.CharacterSum(5, f)
	wantNumber(t, "CharacterSum", sum, ok, -2)
	twist, ok := impl.TwistPoints(5, f)
	wantNumber(t, "TwistPoints", twist, ok, 7)
	count, ok := impl.CountSquareSums(5, 1)
	wantNumber(t, "CountSquareSums", count, ok, 4)
}

// writtenCharacters has the elements with the character 1, worked out by hand.
var writtenCharacters = map[int][]int{3: {1}, 5: {1, 4}, 7: {1, 2, 4}, 9: {1, 2, 3, 6}, 11: {1, 3, 4, 5, 9}, 13: {1, 3, 4, 9, 10, 12}}

func TestWrittenCharacters(t *testing.T) {
	for _, q := range oddSizes() {
		for a := range q {
			want := -1
			if a == 0 {
				want = 0
			} else if slices.Contains(writtenCharacters[q], a) {
				want = 1
			}
			character, ok := impl.CharacterOf(q, a)
			wantNumber(t, fmt.Sprint("CharacterOf ", q, a), character, ok, want)
		}
	}
}

// writtenPoints was worked out by hand.
var writtenPoints = []struct {
	q          int
	f          []int
	sum, twist int
	points     [][]int
}{
	{3, nil, 0, 3, [][]int{{0, 0}, {1, 0}, {2, 0}}},
	{3, []int{1}, 3, 0, [][]int{{0, 1}, {0, 2}, {1, 1}, {1, 2}, {2, 1}, {2, 2}}},
	{3, []int{2}, -3, 6, nil},
	{3, []int{0, 1}, 0, 3, [][]int{{0, 0}, {1, 1}, {1, 2}}},
	{3, []int{1, 0, 1}, -1, 4, [][]int{{0, 1}, {0, 2}}},
	{5, []int{0, 1}, 0, 5, [][]int{{0, 0}, {1, 1}, {1, 4}, {4, 2}, {4, 3}}},
	{5, []int{0, 0, 1}, 4, 1, [][]int{{0, 0}, {1, 1}, {1, 4}, {2, 2}, {2, 3}, {3, 2}, {3, 3}, {4, 1}, {4, 4}}},
	{7, []int{1, 0, 0, 1}, 4, 3, [][]int{{0, 1}, {0, 6}, {1, 3}, {1, 4}, {2, 3}, {2, 4}, {3, 0}, {4, 3}, {4, 4}, {5, 0}, {6, 0}}},
	{9, []int{0, 1}, 0, 9, [][]int{{0, 0}, {1, 1}, {1, 2}, {2, 3}, {2, 6}, {3, 5}, {3, 7}, {6, 4}, {6, 8}}},
}

func TestWrittenPoints(t *testing.T) {
	for _, row := range writtenPoints {
		of := fmt.Sprint(row.q, row.f)
		sum, ok := impl.CharacterSum(row.q, row.f)
		wantNumber(t, "CharacterSum "+of, sum, ok, row.sum)
		count, ok := impl.CountPoints(row.q, row.f)
		wantNumber(t, "CountPoints "+of, count, ok, len(row.points))
		twist, ok := impl.TwistPoints(row.q, row.f)
		wantNumber(t, "TwistPoints "+of, twist, ok, row.twist)
		points, ok := impl.PointsOf(row.q, row.f)
		wantRows(t, "PointsOf "+of, points, ok, row.points...)
	}
}

// TestWrittenSumsAndCounts has over 3 that 4 a c is a c, over 9 that it is a c too, and the character 1 of -1 over 5, 9 and 13 alone.
func TestWrittenSumsAndCounts(t *testing.T) {
	for _, row := range [][5]int{
		{3, 1, 0, 0, 2}, {3, 2, 0, 0, -2}, {3, 1, 1, 1, 2}, {3, 2, 1, 1, 1}, {3, 1, 2, 2, -1}, {5, 1, 2, 1, 4}, {5, 2, 1, 2, -4}, {5, 3, 0, 1, 1},
		{7, 1, 4, 4, 6}, {7, 6, 0, 1, 1}, {9, 1, 2, 1, 8}, {9, 1, 1, 1, 8}, {9, 4, 0, 0, -8}, {9, 3, 4, 1, -1},
	} {
		sum, ok := impl.QuadraticSum(row[0], row[1], row[2], row[3])
		wantNumber(t, fmt.Sprint("QuadraticSum ", row), sum, ok, row[4])
	}
	for q, counts := range map[int][2]int{3: {1, 4}, 5: {9, 4}, 7: {1, 8}, 9: {17, 8}, 11: {1, 12}, 13: {25, 12}} {
		for c := range q {
			count, ok := impl.CountSquareSums(q, c)
			wantNumber(t, fmt.Sprint("CountSquareSums ", q, c), count, ok, counts[min(c, 1)])
		}
	}
	for q, counts := range map[int][4]int{3: {0, 1, 0, 0}, 5: {0, 1, 1, 1}, 7: {1, 2, 1, 1}, 9: {1, 2, 2, 2}, 11: {2, 3, 2, 2}, 13: {2, 3, 3, 3}} {
		for i, pair := range [][2]int{{1, 1}, {1, -1}, {-1, 1}, {-1, -1}} {
			count, ok := impl.CountRuns(q, pair[0], pair[1])
			wantNumber(t, fmt.Sprint("CountRuns ", q, pair), count, ok, counts[i])
		}
	}
}
