package tests

import (
	"fmt"
	"math"
	"slices"
	"testing"

	"loop.example/g01163/impl"
)

// wrongExponents are outside of 0..MaxExponent.
var wrongExponents = []int{-1, -2, -400, 401, 402, 1000, math.MinInt, math.MinInt + 1, math.MaxInt - 1, math.MaxInt}

// wrongJoined are outside of 0..20, the first ones inside of 0..MaxExponent.
var wrongJoined = append([]int{21, 22, 40, 400}, wrongExponents...)

func failsAnswer(t *testing.T, name string, got, ok bool, arguments ...int) {
	t.Helper()
	if got || ok {
		t.Errorf("%s%v: got %v, %v, want false, false", name, arguments, got, ok)
	}
}

// wrongParts are outside of 1..q - 1 or do not divide q - 1.
func wrongParts(q int) []int {
	list := []int{0, -1, 1 - q, q, q + 1, 2*q - 2, math.MinInt, math.MinInt + 1, math.MaxInt - 1, math.MaxInt}
	for d := 1; d < q; d++ {
		if (q-1)%d != 0 {
			list = append(list, d)
		}
	}
	return list
}

// indexedCalls has each place where a polynomial is required. That of AsIndexed keeps its h, so that it is seen whether its memory is new.
func indexedCalls() map[string]listCall {
	return map[string]listCall{
		"IndexedPoly":     func(q int, h []int) ([]int, bool) { return impl.IndexedPoly(q, 1, 1, h) },
		"IndexedPermutes": func(q int, h []int) ([]int, bool) { return yesAsList(impl.IndexedPermutes(q, 1, 1, h)) },
		"AsIndexed, h": func(q int, f []int) ([]int, bool) {
			_, _, h, ok := impl.AsIndexed(q, f)
			return h, ok
		},
		"AsIndexed, r and s": func(q int, f []int) ([]int, bool) {
			r, s, _, ok := impl.AsIndexed(q, f)
			if r == 0 && s == 0 {
				return nil, ok
			}
			return []int{r, s}, ok
		},
	}
}

func asIndexedCalls() map[string]listCall {
	calls := indexedCalls()
	delete(calls, "IndexedPoly")
	delete(calls, "IndexedPermutes")
	return calls
}

// failsExponents is for a size or an exponent that is not valid.
func failsExponents(t *testing.T, q, n int) {
	t.Helper()
	f, ok := impl.PowerOfX(q, n)
	failsList(t, "PowerOfX", f, ok, q, n)
	permutes, ok := impl.PowerPermutes(q, n)
	failsAnswer(t, "PowerPermutes", permutes, ok, q, n)
}

func failsDickson(t *testing.T, q, n, a int) {
	t.Helper()
	f, ok := impl.DicksonOf(q, n, a)
	failsList(t, "DicksonOf", f, ok, q, n, a)
	permutes, ok := impl.DicksonPermutes(q, n, a)
	failsAnswer(t, "DicksonPermutes", permutes, ok, q, n, a)
	failsDicksonAt(t, q, n, a, 1)
}

func failsDicksonAt(t *testing.T, q, n, a, y int) {
	t.Helper()
	value, ok := impl.DicksonAt(q, n, a, y)
	failsNumber(t, "DicksonAt", value, ok, q, n, a, y)
}

func failsJoined(t *testing.T, q, m, n, a int) {
	t.Helper()
	f, ok := impl.JoinDickson(q, m, n, a)
	failsList(t, "JoinDickson", f, ok, q, m, n, a)
}

func failsRoots(t *testing.T, q, d int) {
	t.Helper()
	roots, ok := impl.RootsOfUnity(q, d)
	failsList(t, "RootsOfUnity", roots, ok, q, d)
}

func failsIndexed(t *testing.T, q, r, s int, h []int) {
	t.Helper()
	f, ok := impl.IndexedPoly(q, r, s, h)
	failsList(t, "IndexedPoly", f, ok, q, r, s)
	permutes, ok := impl.IndexedPermutes(q, r, s, h)
	failsAnswer(t, "IndexedPermutes", permutes, ok, q, r, s)
}

func failsWays(t *testing.T, q, a, b int) {
	t.Helper()
	table, ok := impl.SquareWays(q, a, b)
	failsList(t, "SquareWays", table, ok, q, a, b)
	permute, ok := impl.SquareWaysPermute(q, a, b)
	failsAnswer(t, "SquareWaysPermute", permute, ok, q, a, b)
}

func TestNoSizesHaveNoKinds(t *testing.T) {
	lists := [][]int{nil, {0}, {1}, {0, 1}, {1, 1}, {0, 0, 1}, {1, 0}, {-1}, {17}, make([]int, 40)}
	for _, q := range noSizes {
		count, ok := impl.CountPermutingPowers(q)
		failsNumber(t, "CountPermutingPowers", count, ok, q)
		for _, n := range []int{-1, 0, 1, 2, 20, 400, 401} {
			failsExponents(t, q, n)
			for _, a := range []int{-1, 0, 1, q} {
				failsDickson(t, q, n, a)
				failsJoined(t, q, n, 1, a)
				failsJoined(t, q, 1, n, a)
			}
		}
		for _, d := range []int{-1, 0, 1, 2, 3, q - 2, q - 1, q} {
			failsRoots(t, q, d)
			failsIndexed(t, q, d, 1, []int{1})
			failsIndexed(t, q, 1, d, nil)
		}
		for _, pair := range [][2]int{{0, 0}, {0, 1}, {1, 0}, {1, 1}, {-1, 0}, {q, 0}} {
			failsWays(t, q, pair[0], pair[1])
		}
		failsLists(t, q, indexedCalls(), lists)
	}
}

func TestExponentsOutsideOfTheirLimitsFail(t *testing.T) {
	for _, q := range sizes {
		for _, n := range wrongExponents {
			failsExponents(t, q, n)
			for a := range q {
				failsDickson(t, q, n, a)
				failsDicksonAt(t, q, n, a, q-1)
			}
		}
		for _, n := range wrongJoined {
			for _, other := range []int{0, 1, 2, 20, n} {
				for a := range q {
					failsJoined(t, q, n, other, a)
					failsJoined(t, q, other, n, a)
				}
			}
		}
	}
}

func TestNoElementsHaveNoKinds(t *testing.T) {
	for _, q := range sizes {
		for _, a := range noElements(q) {
			for _, n := range []int{0, 1, 2, 20} {
				failsDickson(t, q, n, a)
				failsJoined(t, q, n, n, a)
				failsDicksonAt(t, q, n, 0, a)
				failsDicksonAt(t, q, n, 1, a)
				failsDicksonAt(t, q, n, a, a)
			}
			for _, pair := range [][2]int{{a, 0}, {0, a}, {a, 1}, {1, a}, {a, a}} {
				failsWays(t, q, pair[0], pair[1])
			}
		}
	}
}

func TestDicksonAtZeroFails(t *testing.T) {
	for _, q := range sizes {
		for a := range q {
			for _, n := range exponents(q) {
				failsDicksonAt(t, q, n, a, 0)
			}
		}
	}
}

func TestEvenSizesHaveNoSquareWays(t *testing.T) {
	for _, q := range evenSizes() {
		for a := range q {
			for b := range q {
				failsWays(t, q, a, b)
			}
		}
	}
}

func TestPartsOutsideOfTheirLimitsFail(t *testing.T) {
	for _, q := range sizes {
		for _, d := range wrongParts(q) {
			failsRoots(t, q, d)
			for r := 1; r < q; r++ {
				failsIndexed(t, q, r, d, []int{1})
				failsIndexed(t, q, r, d, nil)
			}
		}
		for _, r := range []int{0, -1, -q, q, q + 1, 2 * q, math.MinInt, math.MinInt + 1, math.MaxInt - 1, math.MaxInt} {
			for _, s := range append(divisorsOf(q-1), 0, r) {
				failsIndexed(t, q, r, s, []int{1})
				failsIndexed(t, q, r, s, nil)
			}
		}
	}
}

func TestListsThatAreNoPolysAreNotIndexed(t *testing.T) {
	for _, q := range sizes {
		failsLists(t, q, indexedCalls(), noPolys(q))
		failsLists(t, q, indexedCalls(), longLists)
		for _, h := range noPolys(q) {
			failsIndexed(t, q, q-1, q-1, h)
		}
	}
}

func TestPolysWithOtherValuesAtZeroAreNotIndexed(t *testing.T) {
	for _, q := range sizes {
		lists := [][]int{nil, {}}
		for _, f := range manyPolys(q) {
			if len(f) == 0 || f[0] != 0 {
				lists = append(lists, f)
			}
		}
		failsLists(t, q, asIndexedCalls(), lists)
		for a := 1; a < q; a++ {
			failsLists(t, q, asIndexedCalls(), [][]int{{a}, {a, 1}, append([]int{a}, slices.Repeat([]int{1}, q-1)...)})
		}
	}
}

func TestLimitsOfKindsAreMetExactly(t *testing.T) {
	f, ok := impl.PowerOfX(16, 400)
	wantList(t, "PowerOfX", f, ok, powerTerms(10)...)
	f, ok = impl.PowerOfX(16, 0)
	wantList(t, "PowerOfX", f, ok, 1)
	for n, want := range map[int]bool{0: false, 1: true, 399: false, 400: false} {
		permutes, ok := impl.PowerPermutes(16, n)
		wantYes(t, fmt.Sprint("PowerPermutes ", n), permutes, ok, want)
		permutes, ok = impl.DicksonPermutes(16, n, 15)
		wantYes(t, fmt.Sprint("DicksonPermutes ", n), permutes, ok, want)
	}
	permutes, ok := impl.PowerPermutes(8, 400)
	wantYes(t, "PowerPermutes", permutes, ok, true)
	permutes, ok = impl.DicksonPermutes(8, 400, 0)
	wantYes(t, "DicksonPermutes for 0", permutes, ok, true)
	permutes, ok = impl.DicksonPermutes(8, 400, 7)
	wantYes(t, "DicksonPermutes", permutes, ok, true)
	f, ok = impl.DicksonOf(2, 400, 1)
	wantList(t, "DicksonOf", f, ok, 0, 1)
	value, ok := impl.DicksonAt(7, 400, 6, 6)
	wantNumber(t, "DicksonAt", value, ok, 2)
	joined, ok := impl.JoinDickson(16, 20, 20, 15)
	want, _ := impl.DicksonOf(16, 400, 15)
	wantList(t, "JoinDickson", joined, ok, want...)
	joined, ok = impl.JoinDickson(7, 0, 0, 0)
	wantList(t, "JoinDickson", joined, ok, 2)
	f, ok = impl.IndexedPoly(16, 15, 15, slices.Repeat([]int{1}, 16))
	wantList(t, "IndexedPoly", f, ok)
	f, ok = impl.IndexedPoly(16, 15, 15, append(make([]int, 15), 7))
	wantList(t, "IndexedPoly", f, ok, append(make([]int, 15), 7)...)
	r, s, h, ok := impl.AsIndexed(16, append(make([]int, 15), 7))
	wantList(t, "AsIndexed", append([]int{r, s}, h...), ok, 15, 15, 7)
	r, s, h, ok = impl.AsIndexed(16, append([]int{0}, slices.Repeat([]int{15}, 15)...))
	wantList(t, "AsIndexed", append([]int{r, s}, h...), ok, append([]int{1, 1}, slices.Repeat([]int{15}, 15)...)...)
	table, ok := impl.SquareWays(3, 2, 2)
	wantList(t, "SquareWays", table, ok, 0, 2, 1)
}

func TestArgumentsOfKindsAndWhatIsBehindThemAreKept(t *testing.T) {
	for _, q := range sizes {
		polys := slices.Concat(somePolys(q, 1), allButMost(sparsePolys(q)), allButMost(noPolys(q)))
		checkKept(t, q, indexedCalls(), polys)
		for _, s := range divisorsOf(q - 1) {
			checkKept(t, q, map[string]listCall{
				"IndexedPoly":     func(q int, h []int) ([]int, bool) { return impl.IndexedPoly(q, q-1, s, h) },
				"IndexedPermutes": func(q int, h []int) ([]int, bool) { return yesAsList(impl.IndexedPermutes(q, q-1, s, h)) },
			}, allButMost(polys))
		}
	}
}

func TestNilAndEmptyFactorsAreTheSame(t *testing.T) {
	for _, q := range sizes {
		for _, h := range [][]int{nil, {}} {
			f, ok := impl.IndexedPoly(q, 1, 1, h)
			wantList(t, "IndexedPoly of 0", f, ok)
			permutes, ok := impl.IndexedPermutes(q, 1, 1, h)
			wantYes(t, "IndexedPermutes of 0", permutes, ok, false)
		}
	}
}

func TestListsOfKindsAreNewEachTime(t *testing.T) {
	for _, q := range sizes {
		full := slices.Repeat([]int{1}, q)
		full[0] = 0
		for _, n := range []int{0, 1, q, 400} {
			checkNew(t, "PowerOfX", func() ([]int, bool) { return impl.PowerOfX(q, n) })
			for a := range q {
				checkNew(t, "DicksonOf", func() ([]int, bool) { return impl.DicksonOf(q, n, a) })
				checkNew(t, "JoinDickson", func() ([]int, bool) { return impl.JoinDickson(q, n%21, 2, a) })
			}
		}
		for _, d := range divisorsOf(q - 1) {
			checkNew(t, "RootsOfUnity", func() ([]int, bool) { return impl.RootsOfUnity(q, d) })
		}
		for name, call := range indexedCalls() {
			checkNew(t, name, func() ([]int, bool) { return call(q, full) })
		}
	}
	for _, q := range oddSizes() {
		checkNew(t, "SquareWays", func() ([]int, bool) { return impl.SquareWays(q, 1, q-1) })
	}
}
