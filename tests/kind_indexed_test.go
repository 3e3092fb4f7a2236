package tests

import (
	"fmt"
	"slices"
	"testing"

	"loop.example/g01163/impl"
)

// indexFactors has all polynomials where these are not too many, and otherwise constants, x^j + a and others: many of the first ones permute, few of the others.
func indexFactors(q int) [][]int {
	if q <= 4 {
		return manyPolys(q)
	}
	polys := somePolys(q, 1)
	for a := range q {
		for j := 1; j < min(q, 5); j++ {
			binomial := make([]int, j+1)
			binomial[0], binomial[j] = a, 1+a%(q-1)
			polys = append(polys, binomial)
		}
	}
	return polys
}

func TestIndexedPolysAreTheirPowersAndFactors(t *testing.T) {
	for _, q := range sizes {
		m := modelPolysOfSize(q)
		for _, s := range divisorsOf(q - 1) {
			for r := 1; r < q; r++ {
				for _, h := range indexFactors(q) {
					terms := indexedTerms(r, s, h)
					name := fmt.Sprint("IndexedPoly ", q, r, s, h)
					f, ok := impl.IndexedPoly(q, r, s, h)
					wantList(t, name, f, ok, m.reduced(terms)...)
					table := m.table(f)
					for x := range q {
						if want := m.products[m.power(x, r)][m.valueAt(h, m.power(x, s))]; table[x] != want {
							t.Errorf("%s is %v, with the value %d at %d, want %d", name, f, table[x], x, want)
						}
					}
				}
			}
		}
	}
}

func TestIndexedPolysPermuteExactlyAsTold(t *testing.T) {
	for _, q := range sizes {
		m := modelPolysOfSize(q)
		met := map[[3]bool]int{}
		for _, s := range divisorsOf(q - 1) {
			for r := 1; r < q; r++ {
				for _, h := range indexFactors(q) {
					name := fmt.Sprint("IndexedPermutes ", q, r, s, h)
					divisor, zero, equal := m.indexedFaults(r, s, h)
					met[[3]bool{divisor, zero, equal}]++
					permutes, ok := impl.IndexedPermutes(q, r, s, h)
					wantYes(t, name, permutes, ok, !divisor && !zero && !equal)
					wantYes(t, name, permutes, ok, isPermutation(m.table(indexedTerms(r, s, h))))
				}
			}
		}
		checkFaults(t, q, met)
	}
}

// checkFaults asks for polynomials in which no condition fails, and for each condition for some in which it alone fails.
// Over the field of 2 r and s are 1, and 1 is the only root: there is neither a common divisor nor a second value.
func checkFaults(t *testing.T, q int, met map[[3]bool]int) {
	t.Helper()
	kinds := [][3]bool{{}, {false, true, false}}
	if q > 2 {
		kinds = append(kinds, [3]bool{true, false, false}, [3]bool{false, false, true})
	}
	for _, kind := range kinds {
		if met[kind] == 0 {
			t.Errorf("over %d no polynomial has the faults %v: %v", q, kind, met)
		}
	}
}

func TestIndexedPermutesTellsTheSameAsDoesPermute(t *testing.T) {
	list := must[[]int](t)
	for _, q := range sizes {
		mix := mixer(q)
		for _, s := range divisorsOf(q - 1) {
			for r := 1; r < q; r++ {
				for range 20 {
					h := withoutZeros(mix.list(q, 1+mix.below(min(q, 3))))
					want, _ := impl.DoesPermute(q, list(impl.IndexedPoly(q, r, s, h)))
					got, ok := impl.IndexedPermutes(q, r, s, h)
					wantYes(t, fmt.Sprint("IndexedPermutes ", q, r, s, h), got, ok, want)
				}
			}
		}
	}
}

// sparsePolys has sums of two and three powers whose distances have all kinds of divisors, and others, with the value 0 at 0 and other than 0.
func sparsePolys(q int) [][]int {
	mix := mixer(q)
	var polys [][]int
	for _, f := range manyPolys(q) {
		if len(f) > 0 && f[0] == 0 {
			polys = append(polys, f)
		}
	}
	for high := 1; high < q; high++ {
		for low := 1; low <= high; low++ {
			two := make([]int, high+1)
			two[low], two[high] = 1+mix.below(q-1), 1+mix.below(q-1)
			three := slices.Clone(two)
			three[1+mix.below(high)] = 1 + mix.below(q-1)
			polys = append(polys, two, three)
		}
	}
	return polys
}

func TestPolysAreToldAsIndexed(t *testing.T) {
	for _, q := range sizes {
		divisors := map[int]int{}
		for _, f := range sparsePolys(q) {
			wantR, wantS, wantH := indexOf(q, f)
			divisors[wantS]++
			name := fmt.Sprint("AsIndexed ", q, f)
			r, s, h, ok := impl.AsIndexed(q, f)
			wantNumber(t, name+", r", r, ok, wantR)
			wantNumber(t, name+", s", s, ok, wantS)
			wantList(t, name+", h", h, ok, wantH...)
			back, ok := impl.IndexedPoly(q, r, s, h)
			wantList(t, name+", back", back, ok, f...)
		}
		for _, s := range divisorsOf(q - 1) {
			if divisors[s] == 0 {
				t.Errorf("over %d no polynomial has s = %d: %v", q, s, divisors)
			}
		}
	}
}

// TestIndexedFactorsAreTheShortestOnes tries all factors.
func TestIndexedFactorsAreTheShortestOnes(t *testing.T) {
	list := must[[]int](t)
	for _, q := range []int{2, 3, 4} {
		shortest := map[string]int{}
		for _, s := range divisorsOf(q - 1) {
			for r := 1; r < q; r++ {
				for _, h := range manyPolys(q) {
					key := fmt.Sprint(r, s, list(impl.IndexedPoly(q, r, s, h)))
					if n, met := shortest[key]; !met || len(h) < n {
						shortest[key] = len(h)
					}
				}
			}
		}
		for _, f := range sparsePolys(q) {
			r, s, h, ok := impl.AsIndexed(q, f)
			wantNumber(t, fmt.Sprint("coefficients of AsIndexed ", q, f), len(h), ok, shortest[fmt.Sprint(r, s, f)])
		}
	}
}

func TestPermutingPolysPermuteAsIndexed(t *testing.T) {
	for _, q := range sizes {
		m := modelPolysOfSize(q)
		for _, f := range mixedPolys(t, q) {
			if len(f) < 2 || f[0] != 0 {
				continue
			}
			r, s, h, ok := impl.AsIndexed(q, f)
			if !ok {
				t.Errorf("AsIndexed(%d, %v) failed", q, f)
			}
			permutes, ok := impl.IndexedPermutes(q, r, s, h)
			wantYes(t, fmt.Sprint("IndexedPermutes ", q, f), permutes, ok, isPermutation(m.table(f)))
		}
	}
}

func TestWrittenIndexedPolys(t *testing.T) {
	for _, row := range []struct {
		q       int
		f       []int
		r, s    int
		h       []int
		permute bool
	}{
		{2, []int{0, 1}, 1, 1, []int{1}, true},
		{5, []int{0, 0, 0, 2}, 3, 4, []int{2}, true},
		{5, []int{0, 0, 3}, 2, 4, []int{3}, false},
		{5, []int{0, 0, 0, 0, 1}, 4, 4, []int{1}, false},
		{7, []int{0, 1, 0, 0, 3}, 1, 3, []int{1, 3}, false},
		{7, []int{0, 3, 0, 0, 1}, 1, 3, []int{3, 1}, true},
		{7, []int{0, 1, 1}, 1, 1, []int{1, 1}, false},
		{7, []int{0, 0, 1, 0, 1, 0, 1}, 2, 2, []int{1, 1, 1}, false},
		{8, []int{0, 1, 0, 0, 1}, 1, 1, []int{1, 0, 0, 1}, false},
		{16, []int{0, 2, 0, 0, 0, 0, 1, 0, 0, 0, 0, 3}, 1, 5, []int{2, 1, 3}, false},
	} {
		r, s, h, ok := impl.AsIndexed(row.q, row.f)
		wantList(t, fmt.Sprint("AsIndexed ", row.q, row.f), append([]int{r, s}, h...), ok, append([]int{row.r, row.s}, row.h...)...)
		permutes, ok := impl.IndexedPermutes(row.q, row.r, row.s, row.h)
		wantYes(t, fmt.Sprint("IndexedPermutes ", row.q, row.f), permutes, ok, row.permute)
	}
	f, ok := impl.IndexedPoly(5, 4, 4, []int{1, 1, 1, 1, 1})
	wantList(t, "IndexedPoly", f, ok)
	f, ok = impl.IndexedPoly(3, 2, 2, []int{1, 0, 1})
	wantList(t, "IndexedPoly", f, ok, 0, 0, 2)
	f, ok = impl.IndexedPoly(7, 1, 1, nil)
	wantList(t, "IndexedPoly of 0", f, ok)
	permutes, ok := impl.IndexedPermutes(7, 1, 1, nil)
	wantYes(t, "IndexedPermutes of 0", permutes, ok, false)
	permutes, ok = impl.IndexedPermutes(7, 3, 3, []int{1})
	wantYes(t, "IndexedPermutes of x^3", permutes, ok, false)
}
