package tests

import (
	"fmt"
	"math"
	"slices"
	"testing"

	"loop.example/g01163/impl"
)

// characterCalls are for odd sizes alone, and succeed for all polynomials over these.
func characterCalls() map[string]listCall {
	return map[string]listCall{
		"CharacterSum": func(q int, f []int) ([]int, bool) { return asList(impl.CharacterSum(q, f)) },
		"CountPoints":  func(q int, f []int) ([]int, bool) { return asList(impl.CountPoints(q, f)) },
		"PointsOf":     func(q int, f []int) ([]int, bool) { return rowsAsList(impl.PointsOf(q, f)) },
		"TwistPoints":  func(q int, f []int) ([]int, bool) { return asList(impl.TwistPoints(q, f)) },
	}
}

// gapCalls fail for polynomials with squares as factors, too.
func gapCalls() map[string]listCall {
	return map[string]listCall{"GapOfBound": func(q int, f []int) ([]int, bool) { return asList(impl.GapOfBound(q, f)) }}
}

// factorCalls are for all sizes, and succeed for all polynomials.
func factorCalls() map[string]listCall {
	return map[string]listCall{
		"DerivativePoly":            impl.DerivativePoly,
		"HasNoSquare":               func(q int, f []int) ([]int, bool) { return yesAsList(impl.HasNoSquare(q, f)) },
		"CommonFactor, first":       func(q int, f []int) ([]int, bool) { return impl.CommonFactor(q, f, []int{1, 1}) },
		"CommonFactor, second":      func(q int, f []int) ([]int, bool) { return impl.CommonFactor(q, []int{1, 1}, f) },
		"CommonFactor, first and 0": func(q int, f []int) ([]int, bool) { return impl.CommonFactor(q, f, nil) },
		"CommonFactor, 0 and it":    func(q int, f []int) ([]int, bool) { return impl.CommonFactor(q, nil, f) },
		"CommonFactor, both":        func(q int, f []int) ([]int, bool) { return impl.CommonFactor(q, f, f) },
		"RemainderPoly, constant":   func(q int, f []int) ([]int, bool) { return impl.RemainderPoly(q, f, []int{q - 1}) },
		"RemainderPoly, first":      func(q int, f []int) ([]int, bool) { return impl.RemainderPoly(q, f, []int{1, 1}) },
		"RemainderPoly, greatest":   func(q int, f []int) ([]int, bool) { return impl.RemainderPoly(q, f, powerTerms(q-1)) },
	}
}

// divisorCalls fail for the polynomial 0.
func divisorCalls() map[string]listCall {
	return map[string]listCall{
		"RemainderPoly, second":       func(q int, f []int) ([]int, bool) { return impl.RemainderPoly(q, powerTerms(q-1), f) },
		"RemainderPoly, second for 0": func(q int, f []int) ([]int, bool) { return impl.RemainderPoly(q, nil, f) },
		"RemainderPoly, second for 1": func(q int, f []int) ([]int, bool) { return impl.RemainderPoly(q, []int{1}, f) },
		"RemainderPoly, both":         func(q int, f []int) ([]int, bool) { return impl.RemainderPoly(q, f, f) },
	}
}

func allCharacterCalls() []map[string]listCall {
	return []map[string]listCall{characterCalls(), gapCalls(), factorCalls(), divisorCalls()}
}

// elementOfCharacterCalls have one element each.
func elementOfCharacterCalls() map[string]ofElement {
	return map[string]ofElement{"CharacterOf": impl.CharacterOf, "CountSquareSums": impl.CountSquareSums, "ShiftedSum": impl.ShiftedSum}
}

func failsElementOfCharacter(t *testing.T, q, a int) {
	t.Helper()
	for name, call := range elementOfCharacterCalls() {
		got, ok := call(q, a)
		failsNumber(t, name, got, ok, q, a)
	}
}

func failsQuadratic(t *testing.T, q, a, b, c int) {
	t.Helper()
	sum, ok := impl.QuadraticSum(q, a, b, c)
	failsNumber(t, "QuadraticSum", sum, ok, q, a, b, c)
}

func failsRuns(t *testing.T, q, first, second int) {
	t.Helper()
	count, ok := impl.CountRuns(q, first, second)
	failsNumber(t, "CountRuns", count, ok, q, first, second)
}

// noSigns has 0, which is a character too, and q - 1, which is the element less than 0 by 1 for some sizes.
func noSigns(q int) []int {
	signs := []int{0, 2, -2, q - 1, 1 - q, q, -q, q + 1, 255, 257, math.MinInt, math.MinInt + 1, math.MaxInt - 1, math.MaxInt}
	return slices.DeleteFunc(signs, func(n int) bool { return n == 1 || n == -1 })
}

func TestListsThatAreNoPolysHaveNoCharactersAndFactors(t *testing.T) {
	for _, q := range sizes {
		for _, calls := range allCharacterCalls() {
			failsLists(t, q, calls, noPolys(q))
			failsLists(t, q, calls, longLists)
		}
		for _, f := range noPolys(q) {
			for _, g := range [][]int{nil, {0}, {1, 0}, {q}, f} {
				rest, ok := impl.RemainderPoly(q, f, g)
				failsList(t, "RemainderPoly", rest, ok, f...)
				factor, ok := impl.CommonFactor(q, f, g)
				failsList(t, "CommonFactor", factor, ok, f...)
			}
		}
	}
}

func TestEvenSizesHaveNoCharacters(t *testing.T) {
	for _, q := range evenSizes() {
		polys := slices.Concat(ordinaryPolys(q), manyPolys(q), splitPolys(q))
		failsLists(t, q, characterCalls(), polys)
		failsLists(t, q, gapCalls(), polys)
		for a := range q {
			failsElementOfCharacter(t, q, a)
			for b := range q {
				failsQuadratic(t, q, a, b, 0)
				failsQuadratic(t, q, a, 0, b)
				failsQuadratic(t, q, 1, a, b)
			}
		}
		for _, first := range append(noSigns(q), 1, -1) {
			for _, second := range append(noSigns(q), 1, -1) {
				failsRuns(t, q, first, second)
			}
		}
	}
}

func TestNoElementsHaveNoCharacters(t *testing.T) {
	for _, q := range sizes {
		for _, a := range noElements(q) {
			failsElementOfCharacter(t, q, a)
			for _, b := range []int{0, 1, q - 1} {
				failsQuadratic(t, q, a, b, b)
				failsQuadratic(t, q, 1, a, b)
				failsQuadratic(t, q, 1, b, a)
				failsQuadratic(t, q, q-1, a, b)
				failsQuadratic(t, q, q-1, b, a)
				failsQuadratic(t, q, b, a, a)
			}
			failsQuadratic(t, q, a, a, a)
		}
	}
}

func TestQuadraticSumsWithoutASquareFail(t *testing.T) {
	for _, q := range sizes {
		for b := range q {
			for c := range q {
				failsQuadratic(t, q, 0, b, c)
			}
		}
	}
}

func TestRunsOfOtherCharactersFail(t *testing.T) {
	for _, q := range oddSizes() {
		for _, n := range noSigns(q) {
			for _, sign := range []int{1, -1} {
				failsRuns(t, q, n, sign)
				failsRuns(t, q, sign, n)
			}
			failsRuns(t, q, n, n)
			failsRuns(t, q, n, 0)
			failsRuns(t, q, 0, n)
		}
	}
}

func TestNothingIsDividedByZero(t *testing.T) {
	for _, q := range sizes {
		for _, f := range slices.Concat(ordinaryPolys(q), allButMost(factoredPolys(q)), noPolys(q)) {
			for _, zero := range [][]int{nil, {}} {
				rest, ok := impl.RemainderPoly(q, f, zero)
				failsList(t, fmt.Sprint("RemainderPoly by 0 ", q), rest, ok, f...)
			}
		}
		failsLists(t, q, divisorCalls(), [][]int{nil, {}})
	}
}

func TestGapsOfConstantsAndOfSquaresFail(t *testing.T) {
	for _, q := range sizes {
		lists := slices.Concat([][]int{nil, {}}, squaredPolys(q, 60))
		for a := 1; a < q; a++ {
			lists = append(lists, []int{a})
		}
		for k := 2; k < q; k++ {
			lists = append(lists, powerTerms(k))
		}
		failsLists(t, q, gapCalls(), lists)
	}
}

func TestNoSizesHaveNoCharactersAndFactors(t *testing.T) {
	lists := [][]int{nil, {0}, {1}, {0, 1}, {1, 1}, {1, 0}, {0, 0, 1}, {-1}, {17}, identityTable(6), make([]int, 6), make([]int, 40)}
	for _, q := range noSizes {
		// Some calls make their second list from the size: these are tried below.
		for _, calls := range []map[string]listCall{characterCalls(), gapCalls()} {
			failsLists(t, q, calls, lists)
		}
		for _, f := range lists {
			derivative, ok := impl.DerivativePoly(q, f)
			failsList(t, "DerivativePoly", derivative, ok, append([]int{q}, f...)...)
			none, ok := impl.HasNoSquare(q, f)
			failsAnswer(t, "HasNoSquare", none, ok, append([]int{q}, f...)...)
			for _, g := range lists {
				factor, ok := impl.CommonFactor(q, f, g)
				failsList(t, "CommonFactor", factor, ok, append([]int{q}, f...)...)
				rest, ok := impl.RemainderPoly(q, f, g)
				failsList(t, "RemainderPoly", rest, ok, append([]int{q}, f...)...)
			}
		}
		for _, a := range []int{-1, 0, 1, 2, q - 1, q} {
			failsElementOfCharacter(t, q, a)
			failsQuadratic(t, q, 1, a, 0)
			failsQuadratic(t, q, a, 0, 1)
			failsQuadratic(t, q, a, a, a)
		}
		for _, first := range []int{1, -1, 0} {
			for _, second := range []int{1, -1, 0} {
				failsRuns(t, q, first, second)
			}
		}
	}
}

// TestLimitsOfCharactersAreMetExactly has the greatest elements, and polynomials with q coefficients.
func TestLimitsOfCharactersAreMetExactly(t *testing.T) {
	for _, q := range sizes {
		m, full := modelPolysOfSize(q), slices.Repeat([]int{q - 1}, q)
		derivative, ok := impl.DerivativePoly(q, full)
		wantList(t, fmt.Sprint("DerivativePoly ", q), derivative, ok, m.derivative(full)...)
		checkCommonFactor(t, q, full, powerTerms(q-1))
		checkCommonFactor(t, q, full, full)
		rest, ok := impl.RemainderPoly(q, full, full)
		wantList(t, fmt.Sprint("RemainderPoly ", q), rest, ok)
		rest, ok = impl.RemainderPoly(q, full, powerTerms(q-1))
		wantList(t, fmt.Sprint("RemainderPoly ", q), rest, ok, full[1:]...)
		none, ok := impl.HasNoSquare(q, full)
		wantAnswer(t, "HasNoSquare", q, full, none, ok, m.hasNoSquare(full))
		if q%2 == 0 {
			continue
		}
		sum, ok := impl.CharacterSum(q, full)
		wantNumber(t, fmt.Sprint("CharacterSum ", q), sum, ok, m.characterSum(m.table(full)))
		sum, ok = impl.QuadraticSum(q, q-1, q-1, q-1)
		wantNumber(t, fmt.Sprint("QuadraticSum ", q), sum, ok, m.characterSum(m.table(slices.Repeat([]int{q - 1}, 3))))
		// x^(q - 1) less 1 has all x but 0 as different zeros.
		split := powerTerms(q - 1)
		split[0] = m.less(0, 1)
		gap, ok := impl.GapOfBound(q, split)
		wantNumber(t, fmt.Sprint("GapOfBound ", q), gap, ok, (q-2)*(q-2)*q-1)
	}
}

func TestPolyZeroHasCharactersAndFactors(t *testing.T) {
	for _, q := range sizes {
		for _, zero := range [][]int{nil, {}} {
			for name, call := range factorCalls() {
				if _, ok := call(q, zero); !ok {
					t.Errorf("%s fails for 0 over %d", name, q)
				}
			}
			for name, call := range characterCalls() {
				if _, ok := call(q, zero); ok != (q%2 == 1) {
					t.Errorf("%s for 0 over %d: %v", name, q, ok)
				}
			}
			none, ok := impl.HasNoSquare(q, zero)
			wantAnswer(t, "HasNoSquare", q, zero, none, ok, false)
			factor, ok := impl.CommonFactor(q, zero, zero)
			wantList(t, fmt.Sprint("CommonFactor ", q), factor, ok)
		}
	}
}

func TestNilAndEmptyListsHaveTheSameCharactersAndFactors(t *testing.T) {
	for _, q := range sizes {
		for _, calls := range allCharacterCalls() {
			for name, call := range calls {
				first, ok := call(q, nil)
				second, okToo := call(q, []int{})
				if ok != okToo || !slices.Equal(first, second) {
					t.Errorf("%s over %d: %v, %v for nil, and %v, %v for an empty list", name, q, first, ok, second, okToo)
				}
			}
		}
	}
}

func TestArgumentsOfCharactersAndWhatIsBehindThemAreKept(t *testing.T) {
	for _, q := range sizes {
		polys := slices.Concat(ordinaryPolys(q), allButMost(factoredPolys(q)), allButMost(noPolys(q)))
		for _, calls := range allCharacterCalls() {
			checkKept(t, q, calls, polys)
		}
	}
}

// TestTwoPolysMayShareMemory has the second one behind the first one, where its spare capacity is, and a beginning of it.
func TestTwoPolysMayShareMemory(t *testing.T) {
	for _, q := range sizes {
		for _, pair := range sharingPairs(q, 40) {
			f, g := pair[0], pair[1]
			whole := slices.Concat(f, g)
			before := slices.Clone(whole)
			shared := [][2][]int{{whole[:len(f)], whole[len(f):]}, {whole[len(f):], whole[:len(f)]}, {whole[:len(f)], whole[:1]}, {whole[:1], whole[:len(f)]}}
			for _, lists := range shared {
				for name, call := range map[string]func(int, []int, []int) ([]int, bool){"CommonFactor": impl.CommonFactor, "RemainderPoly": impl.RemainderPoly} {
					want, wantOk := call(q, slices.Clone(lists[0]), slices.Clone(lists[1]))
					got, ok := call(q, lists[0], lists[1])
					if ok != wantOk || !slices.Equal(got, want) {
						t.Errorf("%s(%d, %v) = %v, %v, want %v, %v", name, q, lists, got, ok, want, wantOk)
					}
					overwrite(got)
					if !slices.Equal(whole, before) {
						t.Fatalf("%s changed its arguments %v to %v", name, before, whole)
					}
				}
			}
		}
	}
}

func TestListsOfCharactersAreNewEachTime(t *testing.T) {
	for _, q := range sizes {
		for _, f := range slices.Concat(ordinaryPolys(q), allButMost(factoredPolys(q))) {
			for _, calls := range allCharacterCalls() {
				for name, call := range calls {
					if _, ok := call(q, f); ok {
						checkNew(t, fmt.Sprint(name, " ", q, f), func() ([]int, bool) { return call(q, f) })
					}
				}
			}
			if q%2 == 1 {
				checkNewRows(t, fmt.Sprint("PointsOf ", q, f), func() ([][]int, bool) { return impl.PointsOf(q, f) })
			}
		}
	}
}
