package tests

import (
	"fmt"
	"slices"
	"testing"

	"loop.example/g01163/impl"
)

func TestDerivativesAreSumsOfMultiplesOfTerms(t *testing.T) {
	for _, q := range sizes {
		m := modelPolysOfSize(q)
		for _, f := range factoredPolys(q) {
			derivative, ok := impl.DerivativePoly(q, f)
			wantList(t, fmt.Sprint("DerivativePoly ", q, f), derivative, ok, m.derivative(f)...)
		}
	}
}

// pairsWithin has all pairs of polynomials whose product has a degree less than q where these are not too many.
func pairsWithin(q int) [][2][]int {
	var pairs [][2][]int
	if q > 4 {
		mix := mixer(q)
		for i := range 300 {
			f := mix.poly(q, i%(q+1))
			pairs = append(pairs, [2][]int{f, mix.poly(q, mix.below(min(q, q+1-len(f))+1))})
		}
		return pairs
	}
	for _, f := range manyPolys(q) {
		for _, g := range manyPolys(q) {
			if len(f)+len(g) <= q+1 {
				pairs = append(pairs, [2][]int{f, g})
			}
		}
	}
	return pairs
}

// TestDerivativesFollowTheRuleForProducts asks the program alone, for products that are not reduced.
func TestDerivativesFollowTheRuleForProducts(t *testing.T) {
	list := must[[]int](t)
	for _, q := range sizes {
		for _, pair := range pairsWithin(q) {
			f, g := pair[0], pair[1]
			product := list(impl.TimesPoly(q, f, g))
			first := list(impl.TimesPoly(q, list(impl.DerivativePoly(q, f)), g))
			second := list(impl.TimesPoly(q, f, list(impl.DerivativePoly(q, g))))
			derivative, ok := impl.DerivativePoly(q, product)
			wantList(t, fmt.Sprint("DerivativePoly of a product ", q, pair), derivative, ok, list(impl.PlusPoly(q, first, second))...)
		}
	}
}

// eachDivision has all polynomials but 0 as divisors, with all multiples and all rests of a lesser degree, where these are not too many. A multiple and a rest together make each polynomial just once.
func eachDivision(q int, look func(divisor, multiple, rest []int)) {
	m, mix := modelPolysOfSize(q), mixer(q)
	if q > 4 {
		for i := range 1500 {
			divisor := mix.poly(q, 1+i%q)
			factor := mix.poly(q, mix.below(q-len(divisor)+2))
			look(divisor, m.plainTimes(divisor, factor), withoutZeros(mix.list(q, len(divisor)-1)))
		}
		return
	}
	for _, divisor := range manyPolys(q) {
		if len(divisor) == 0 {
			continue
		}
		for _, factor := range allLists(q, q-len(divisor)+1) {
			for _, rest := range allLists(q, len(divisor)-1) {
				look(divisor, m.plainTimes(divisor, withoutZeros(factor)), withoutZeros(rest))
			}
		}
	}
}

func TestRemaindersAreWhatMultiplesLeave(t *testing.T) {
	for _, q := range sizes {
		m, lengths := modelPolysOfSize(q), map[int]bool{}
		eachDivision(q, func(divisor, multiple, rest []int) {
			f := m.plainPlus(multiple, rest)
			got, ok := impl.RemainderPoly(q, f, divisor)
			wantList(t, fmt.Sprint("RemainderPoly ", q, f, divisor), got, ok, rest...)
			lengths[len(rest)] = true
		})
		if len(lengths) != q {
			t.Errorf("the remainders over %d have %d numbers of coefficients", q, len(lengths))
		}
	}
}

// TestRemaindersOfAllPolysAreFound searches for the factor that makes the multiple.
func TestRemaindersOfAllPolysAreFound(t *testing.T) {
	for _, q := range []int{2, 3} {
		m := modelPolysOfSize(q)
		for _, f := range manyPolys(q) {
			for _, g := range manyPolys(q)[1:] {
				rest, ok := impl.RemainderPoly(q, f, g)
				makes := func(factor []int) bool { return slices.Equal(m.plainPlus(m.plainTimes(g, factor), rest), f) }
				if !ok || len(rest) >= len(g) || !slices.ContainsFunc(manyPolys(q), makes) {
					t.Errorf("RemainderPoly(%d, %v, %v) = %v, %v", q, f, g, rest, ok)
				}
			}
		}
	}
}

// TestCommonFactorsAreTheGreatestOfAllDivisors searches through all divisors; for 0 these are all polynomials.
func TestCommonFactorsAreTheGreatestOfAllDivisors(t *testing.T) {
	for _, q := range []int{2, 3, 4, 5} {
		polys, divisors := manyPolys(q), modelPolysOfSize(q).monicDivisors()
		for degree := range q {
			divisors[0] = append(divisors[0], monicPolys(q, degree)...)
		}
		others := polys
		if q == 5 {
			others = allButMost(polys)
		}
		for _, f := range polys {
			for _, g := range others {
				factor, ok := impl.CommonFactor(q, f, g)
				of := fmt.Sprint("CommonFactor ", q, f, g)
				if len(f) == 0 && len(g) == 0 {
					wantList(t, of, factor, ok)
					continue
				}
				shared := greatestShared(divisors[numberOf(q, f)], divisors[numberOf(q, g)])
				wantRows(t, of, [][]int{factor}, ok, shared...)
			}
		}
	}
}

// checkCommonFactor goes by the degree, which the model tells without dividing.
func checkCommonFactor(t *testing.T, q int, f, g []int) {
	t.Helper()
	m, of := modelPolysOfSize(q), fmt.Sprint("CommonFactor ", q, f, g)
	factor, ok := impl.CommonFactor(q, f, g)
	if len(f) == 0 && len(g) == 0 {
		wantList(t, of, factor, ok)
		return
	}
	if is, _ := impl.IsPoly(q, factor); !ok || !is || len(factor) == 0 || factor[len(factor)-1] != 1 {
		t.Errorf("%s = %v, %v", of, factor, ok)
		return
	}
	for _, whole := range [][]int{f, g} {
		rest, ok := impl.RemainderPoly(q, whole, factor)
		wantList(t, "what is left by "+of, rest, ok)
	}
	wantNumber(t, "the degree of "+of, len(factor)-1, ok, m.sharedDegree(f, g))
}

func TestCommonFactorsDivideAndHaveTheGreatestDegree(t *testing.T) {
	for _, q := range sizes {
		degrees := map[int]bool{}
		for _, pair := range slices.Concat(sharingPairs(q, 20*q), pairsWithin(q)[:min(100, len(pairsWithin(q)))]) {
			f, g := pair[0], pair[1]
			checkCommonFactor(t, q, f, g)
			checkCommonFactor(t, q, g, f)
			factor, _ := impl.CommonFactor(q, f, g)
			degrees[len(factor)-1] = true
		}
		for degree := range q {
			if !degrees[degree] {
				t.Errorf("no common factor over %d has the degree %d", q, degree)
			}
		}
		polys := allButMost(factoredPolys(q))
		for i, f := range polys {
			checkCommonFactor(t, q, f, polys[(7*i+1)%len(polys)])
		}
	}
}

// TestCommonFactorsWithZeroAndWithItself has the polynomial itself, with 1 as its last coefficient.
func TestCommonFactorsWithZeroAndWithItself(t *testing.T) {
	for _, q := range sizes {
		m := modelPolysOfSize(q)
		for _, f := range factoredPolys(q) {
			var want []int
			if len(f) > 0 {
				want = m.plainTimes(f, []int{m.inverse(f[len(f)-1])})
			}
			for _, pair := range [][2][]int{{f, nil}, {nil, f}, {f, f}, {f, want}} {
				factor, ok := impl.CommonFactor(q, pair[0], pair[1])
				wantList(t, fmt.Sprint("CommonFactor ", q, pair), factor, ok, want...)
			}
		}
	}
}

func TestNoSquareIsToldByTheDerivative(t *testing.T) {
	yes, list := must[bool](t), must[[]int](t)
	for _, q := range sizes {
		m, met := modelPolysOfSize(q), map[bool]int{}
		for _, f := range factoredPolys(q) {
			got, ok := impl.HasNoSquare(q, f)
			wantAnswer(t, "HasNoSquare", q, f, got, ok, m.hasNoSquare(f))
			met[got]++
		}
		if met[true] == 0 || met[false] == 0 {
			t.Errorf("the polynomials over %d are of one kind: %v", q, met)
		}
		// The program alone.
		for _, f := range allButMost(factoredPolys(q)) {
			factor := list(impl.CommonFactor(q, f, list(impl.DerivativePoly(q, f))))
			wantAnswer(t, "HasNoSquare", q, f, yes(impl.HasNoSquare(q, f)), true, len(factor) == 1)
		}
	}
}

// squareMultiples has the numbers of all polynomials other than 0 with at most some terms that are divided by a product of one of at least 1 as degree with itself.
func (m modelPolys) squareMultiples(terms int) map[int]bool {
	numbers := map[int]bool{}
	for degree := 1; 2*degree < terms; degree++ {
		for _, h := range monicPolys(m.size, degree) {
			square := m.plainTimes(h, h)
			for _, factor := range allLists(m.size, terms-2*degree) {
				if f := m.plainTimes(square, withoutZeros(factor)); len(f) > 0 {
					numbers[numberOf(m.size, f)] = true
				}
			}
		}
	}
	return numbers
}

// TestNoSquareDividesPolysWithoutSquares has all polynomials up to the size 5, and samples of up to seven and, over greater fields, five terms.
func TestNoSquareDividesPolysWithoutSquares(t *testing.T) {
	for _, q := range sizes {
		polys, terms := manyPolys(q), min(q, 7)
		if q > 7 {
			terms = 5
		}
		multiples := modelPolysOfSize(q).squareMultiples(terms)
		if q > 5 {
			mix := mixer(q)
			polys = nil
			for i := range 2000 {
				polys = append(polys, mix.poly(q, i%(terms+1)))
			}
		}
		met := map[bool]int{}
		for _, f := range polys {
			want := len(f) > 0 && !multiples[numberOf(q, f)]
			got, ok := impl.HasNoSquare(q, f)
			wantAnswer(t, "HasNoSquare", q, f, got, ok, want)
			met[want]++
		}
		if met[true] == 0 || met[false] < 2 && q > 2 {
			t.Errorf("the polynomials over %d are of one kind: %v", q, met)
		}
	}
}

func TestProductsOfFactorsHaveSquaresOrNone(t *testing.T) {
	for _, q := range sizes {
		for _, f := range splitPolys(q) {
			got, ok := impl.HasNoSquare(q, f)
			wantAnswer(t, "HasNoSquare", q, f, got, ok, true)
		}
		for _, f := range squaredPolys(q, 60) {
			got, ok := impl.HasNoSquare(q, f)
			wantAnswer(t, "HasNoSquare", q, f, got, ok, false)
		}
		// x^n and an element other than 0 share no factor with n x^(n - 1), but all if this is 0.
		for _, f := range binomials(q) {
			n := len(f) - 1
			want := n == 1 || f[0] != 0 && n%modelOf(q).prime != 0
			got, ok := impl.HasNoSquare(q, f)
			wantAnswer(t, "HasNoSquare", q, f, got, ok, want)
		}
	}
}

func TestGapsAreThoseOfTheSums(t *testing.T) {
	number := must[int](t)
	for _, q := range sizes {
		m, met := modelPolysOfSize(q), map[bool]int{}
		for _, f := range factoredPolys(q) {
			of, d := fmt.Sprint("GapOfBound ", q, f), len(f)-1
			gap, ok := impl.GapOfBound(q, f)
			fits := q%2 == 1 && d >= 1 && m.hasNoSquare(f)
			met[fits]++
			if !fits {
				failsNumber(t, of, gap, ok)
				continue
			}
			sum := m.characterSum(m.table(f))
			wantNumber(t, of, gap, ok, (d-1)*(d-1)*q-sum*sum)
			called := number(impl.CharacterSum(q, f))
			wantNumber(t, of, gap, ok, (d-1)*(d-1)*q-called*called)
			if gap < 0 {
				t.Errorf("%s is %d", of, gap)
			}
		}
		if met[false] == 0 || met[true] == 0 && q%2 == 1 {
			t.Errorf("the polynomials over %d are of one kind: %v", q, met)
		}
	}
}

// TestPolysAreNotReduced has x, which is x^q if it is reduced: a multiple of all its powers then, with the derivative 0.
func TestPolysAreNotReduced(t *testing.T) {
	for _, q := range sizes {
		x := []int{0, 1}
		derivative, ok := impl.DerivativePoly(q, x)
		wantList(t, fmt.Sprint("DerivativePoly ", q), derivative, ok, 1)
		none, ok := impl.HasNoSquare(q, x)
		wantAnswer(t, "HasNoSquare", q, x, none, ok, true)
		gap, ok := impl.GapOfBound(q, x)
		wantNumber(t, fmt.Sprint("GapOfBound ", q), gap, ok == (q%2 == 1), 0)
		for k := 2; k < q; k++ {
			rest, ok := impl.RemainderPoly(q, x, powerTerms(k))
			wantList(t, fmt.Sprint("RemainderPoly ", q, k), rest, ok, 0, 1)
			factor, ok := impl.CommonFactor(q, x, powerTerms(k))
			wantList(t, fmt.Sprint("CommonFactor ", q, k), factor, ok, 0, 1)
			factor, ok = impl.CommonFactor(q, []int{1, 1}, powerTerms(k))
			wantList(t, fmt.Sprint("CommonFactor with x + 1 ", q, k), factor, ok, 1)
		}
	}
}

func TestExamplesOfFactors(t *testing.T) {
	factor, ok := impl.CommonFactor(5, []int{4, 0, 1}, []int{1, 1})
	wantList(t, "CommonFactor", factor, ok, 1, 1)
	gap, ok := impl.GapOfBound(5, []int{0, 1, 0, 1})
	wantNumber(t, "GapOfBound", gap, ok, 16)
}

func TestWrittenDerivativesAndRemainders(t *testing.T) {
	for _, row := range []struct {
		q       int
		f, want []int
	}{
		{2, nil, nil}, {2, []int{1}, nil}, {2, []int{1, 1}, []int{1}}, {3, []int{2, 1, 2}, []int{1, 1}}, {4, []int{1, 2, 3, 2}, []int{2, 0, 2}},
		{4, []int{0, 0, 3}, nil}, {5, []int{1, 2, 3, 4, 1}, []int{2, 1, 2, 4}}, {9, []int{0, 0, 0, 5}, nil}, {9, []int{0, 1, 3, 0, 4}, []int{1, 6, 0, 4}}, {16, []int{7, 9, 0, 5}, []int{9, 0, 5}},
	} {
		derivative, ok := impl.DerivativePoly(row.q, row.f)
		wantList(t, fmt.Sprint("DerivativePoly ", row), derivative, ok, row.want...)
	}
	for _, row := range []struct {
		q          int
		f, g, want []int
	}{
		{2, []int{1, 1}, []int{0, 1}, []int{1}}, {3, []int{0, 0, 1}, []int{1, 1}, []int{1}}, {3, []int{0, 0, 1}, []int{2, 2}, []int{1}}, {5, []int{1, 2}, []int{0, 0, 3}, []int{1, 2}},
		{5, []int{1, 0, 0, 0, 1}, []int{2, 0, 2}, []int{2}}, {5, []int{4, 3, 2}, []int{3}, nil}, {5, nil, []int{1, 1}, nil}, {4, []int{0, 0, 1}, []int{2, 1}, []int{3}}, {7, []int{1, 3, 3, 1}, []int{1, 2, 1}, nil},
	} {
		rest, ok := impl.RemainderPoly(row.q, row.f, row.g)
		wantList(t, fmt.Sprint("RemainderPoly ", row), rest, ok, row.want...)
	}
}

func TestWrittenFactorsAndGaps(t *testing.T) {
	for _, row := range []struct {
		q          int
		f, g, want []int
	}{
		{2, nil, nil, nil}, {2, []int{1, 1}, nil, []int{1, 1}}, {3, []int{2, 0, 1}, []int{1, 2, 1}, []int{1, 1}}, {3, []int{2}, []int{0, 2}, []int{1}}, {3, nil, []int{1, 2}, []int{2, 1}},
		{4, []int{1, 0, 1}, []int{1, 0, 0, 1}, []int{1, 1}}, {5, []int{4, 0, 0, 0, 1}, []int{3, 3}, []int{1, 1}}, {7, []int{6, 0, 0, 0, 0, 0, 1}, []int{3, 0, 0, 3}, []int{1, 0, 0, 1}}, {9, []int{1, 0, 1}, []int{3, 1}, []int{3, 1}},
	} {
		factor, ok := impl.CommonFactor(row.q, row.f, row.g)
		wantList(t, fmt.Sprint("CommonFactor ", row), factor, ok, row.want...)
	}
	for _, row := range []struct {
		q   int
		f   []int
		gap int
	}{
		{3, []int{2, 2}, 0}, {3, []int{1, 0, 1}, 2}, {3, []int{0, 1, 1}, 2}, {5, []int{2, 0, 3}, 4}, {7, []int{1, 0, 0, 1}, 12}, {7, []int{0, 1, 0, 1}, 28}, {9, []int{0, 3, 0, 1}, 0},
	} {
		gap, ok := impl.GapOfBound(row.q, row.f)
		wantNumber(t, fmt.Sprint("GapOfBound ", row), gap, ok, row.gap)
	}
}
