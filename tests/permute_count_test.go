package tests

import (
	"fmt"
	"slices"
	"testing"

	"loop.example/g01163/impl"
)

var countedSizes = []int{2, 3, 4, 5, 7}

// modelNormalWith sorts out all permutations by the degrees of their polynomials, and keeps how many there are of each.
func modelNormalWith(t *testing.T, q int) (normal map[int][][]int, counts map[int]int) {
	t.Helper()
	m := modelPolysOfSize(q)
	normal, counts = map[int][][]int{}, map[int]int{}
	for _, f := range polysOf(t, q, allPermutations(q)) {
		degree := len(f) - 1
		counts[degree]++
		if m.isNormal(f) {
			normal[degree] = append(normal[degree], f)
		}
	}
	for _, polys := range normal {
		slices.SortFunc(polys, func(f, g []int) int { return numberOf(q, f) - numberOf(q, g) })
	}
	return normal, counts
}

func TestPermutingPolysAreCountedByTheirDegrees(t *testing.T) {
	for _, q := range countedSizes {
		normal, counts := modelNormalWith(t, q)
		total, orders := 0, 1
		for degree := 1; degree < q; degree++ {
			count, ok := impl.CountPermuting(q, degree)
			wantNumber(t, fmt.Sprint("CountPermuting ", q, degree), count, ok, counts[degree])
			polys, ok := impl.NormalWith(q, degree)
			wantRows(t, fmt.Sprint("NormalWith ", q, degree), polys, ok, normal[degree]...)
			total += count
			orders *= degree + 1
		}
		if total != orders {
			t.Errorf("over %d there are %d that permute, and %d orders of the elements", q, total, orders)
		}
	}
}

func TestNormalPolysComeInTheOrderOfTheirNumbers(t *testing.T) {
	number := must[int](t)
	for _, q := range countedSizes {
		for degree := 1; degree < q; degree++ {
			polys, ok := impl.NormalWith(q, degree)
			if !ok {
				t.Errorf("NormalWith(%d, %d) failed", q, degree)
			}
			before := 0
			for _, f := range polys {
				is, ok := impl.IsNormal(q, f)
				wantAnswer(t, "IsNormal", q, f, is, ok, true)
				does, ok := impl.DoesPermute(q, f)
				wantAnswer(t, "DoesPermute", q, f, does, ok, true)
				after := number(impl.NumberOfPoly(q, f))
				if after <= before || len(f) != degree+1 {
					t.Errorf("NormalWith(%d, %d) has %v behind the number %d", q, degree, f, before)
				}
				before = after
			}
		}
	}
}

func TestWrittenCounts(t *testing.T) {
	written := map[int][]int{2: {2}, 3: {6, 0}, 4: {12, 12, 0}, 5: {20, 0, 100, 0}, 7: {42, 0, 0, 588, 4410, 0}}
	for q, counts := range written {
		for i, want := range counts {
			count, ok := impl.CountPermuting(q, i+1)
			wantNumber(t, fmt.Sprint("CountPermuting ", q, i+1), count, ok, want)
		}
	}
	for _, row := range []struct {
		q, degree int
		want      [][]int
	}{
		{2, 1, [][]int{{0, 1}}}, {3, 1, [][]int{{0, 1}}}, {3, 2, nil}, {4, 1, [][]int{{0, 1}}}, {4, 2, [][]int{{0, 0, 1}}}, {4, 3, nil},
		{5, 2, nil}, {5, 3, [][]int{{0, 0, 0, 1}}}, {7, 1, [][]int{{0, 1}}}, {7, 4, [][]int{{0, 3, 0, 0, 1}, {0, 4, 0, 0, 1}}}, {7, 6, nil},
	} {
		polys, ok := impl.NormalWith(row.q, row.degree)
		wantRows(t, fmt.Sprint("NormalWith ", row.q, row.degree), polys, ok, row.want...)
	}
	polys, ok := impl.NormalWith(7, 5)
	if len(polys) != 15 || !ok {
		t.Errorf("NormalWith(7, 5) has %d: %v", len(polys), polys)
	}
}

func TestGreatestDegrees(t *testing.T) {
	written := map[int]int{2: 1, 3: 1, 4: 2, 5: 3, 7: 5, 8: 6, 9: 7, 11: 9, 13: 11, 16: 14}
	for _, q := range sizes {
		greatest, ok := impl.GreatestDegree(q)
		wantNumber(t, fmt.Sprint("GreatestDegree ", q), greatest, ok, written[q])
		met := 0
		for _, f := range permutingPolys(t, q) {
			met = max(met, len(f)-1)
			if d := len(f) - 1; d > 1 && (q-1)%d == 0 {
				t.Errorf("over %d %v permutes with a degree that divides %d", q, f, q-1)
			}
		}
		if met != greatest {
			t.Errorf("over %d the greatest degree is %d, but %d is met", q, greatest, met)
		}
	}
}

// shapedPolys has each degree several times, so that the prime divides some of them, and all polynomials where these are not too many.
func shapedPolys(q int) [][]int {
	if q <= 4 {
		return manyPolys(q)
	}
	polys := somePolys(q, 4)
	for n := 2; n <= q; n++ {
		alone, next := make([]int, n), make([]int, n)
		alone[n-1], next[n-1], next[n-2] = 1, q-1, 1
		polys = append(polys, alone, next)
	}
	return polys
}

func TestNormalFormsAreTheOnlyOnes(t *testing.T) {
	for _, q := range sizes {
		m := modelPolysOfSize(q)
		divided := 0
		for _, f := range shapedPolys(q) {
			normal, ok := impl.NormalOf(q, f)
			if len(f) < 2 {
				failsList(t, "NormalOf", normal, ok, append([]int{q}, f...)...)
				continue
			}
			if (len(f)-1)%modelOf(q).prime == 0 {
				divided++
			}
			wantRows(t, fmt.Sprint("NormalOf ", q, f), [][]int{normal}, ok, m.normalsOf(f)...)
			again, ok := impl.NormalOf(q, normal)
			wantList(t, fmt.Sprint("NormalOf of a normal one ", q, normal), again, ok, normal...)
			is, ok := impl.IsNormal(q, normal)
			wantAnswer(t, "IsNormal", q, normal, is, ok, true)
			does, ok := impl.DoesPermute(q, normal)
			wantAnswer(t, "DoesPermute", q, normal, does, ok, isPermutation(m.table(f)))
		}
		if divided == 0 && modelOf(q).places > 1 {
			t.Errorf("over %d the prime divides no degree", q)
		}
	}
}

// TestFormsHaveTheSameNormalOne moves polynomials by elements b other than 0 only where these may be taken back.
func TestFormsHaveTheSameNormalOne(t *testing.T) {
	list := must[[]int](t)
	for _, q := range sizes {
		mix := mixer(q)
		for _, f := range shapedPolys(q) {
			if len(f) < 2 {
				continue
			}
			want := list(impl.NormalOf(q, f))
			for range 3 {
				a, b, c := 1+mix.below(q-1), mix.below(q), mix.below(q)
				if (len(f)-1)%modelOf(q).prime == 0 {
					b = 0
				}
				form := list(impl.ScalePoly(q, list(impl.ShiftPoly(q, f, b)), a))
				form = list(impl.PlusPoly(q, form, withoutZeros([]int{c})))
				got, ok := impl.NormalOf(q, form)
				wantList(t, fmt.Sprint("NormalOf ", q, form), got, ok, want...)
			}
		}
	}
}

func TestWhichPolysAreNormal(t *testing.T) {
	for _, q := range sizes {
		m := modelPolysOfSize(q)
		met := map[bool]int{}
		for _, f := range nearlyNormal(q) {
			want := m.isNormal(f)
			met[want]++
			is, ok := impl.IsNormal(q, f)
			wantAnswer(t, "IsNormal", q, f, is, ok, want)
		}
		if met[true] == 0 || met[false] == 0 {
			t.Errorf("the polynomials over %d are of one kind: %v", q, met)
		}
	}
}

// nearlyNormal has polynomials of each degree whose first and last coefficients are 0, 1 or another.
func nearlyNormal(q int) [][]int {
	mix := mixer(q)
	polys := manyPolys(q)
	for n := 2; n <= q; n++ {
		for _, first := range []int{0, 1, q - 1} {
			for _, next := range []int{0, 1, q - 1} {
				for _, last := range []int{1, q - 1} {
					f := mix.list(q, n)
					f[n-2], f[0], f[n-1] = next, first, last
					polys = append(polys, f)
				}
			}
		}
	}
	return polys
}

func TestWrittenNormalForms(t *testing.T) {
	for _, row := range []struct {
		q       int
		f, want []int
	}{
		{2, []int{1, 1}, []int{0, 1}},
		{5, []int{3, 4}, []int{0, 1}},
		{5, []int{1, 2, 3}, []int{0, 0, 1}},
		{3, []int{2, 1, 2}, []int{0, 0, 1}},
		{4, []int{1, 2, 3}, []int{0, 3, 1}},
		{4, []int{0, 1, 1}, []int{0, 1, 1}},
		{5, []int{0, 0, 1, 1}, []int{0, 3, 0, 1}},
		{9, []int{1, 0, 3, 3}, []int{0, 0, 1, 1}},
		{7, []int{1, 0, 0, 0, 0, 0, 2}, []int{0, 0, 0, 0, 0, 0, 1}},
	} {
		got, ok := impl.NormalOf(row.q, row.f)
		wantList(t, fmt.Sprint("NormalOf ", row.q, row.f), got, ok, row.want...)
	}
	for _, f := range [][]int{nil, {1}, {4}, {1, 1}, {0, 2}, {0, 1, 1}, {0, 0, 2}, {1, 0, 1}} {
		is, ok := impl.IsNormal(5, f)
		wantAnswer(t, "IsNormal", 5, f, is, ok, false)
	}
	for _, f := range [][]int{{0, 1, 1}, {0, 0, 1}, {0, 3, 0, 1}} {
		is, ok := impl.IsNormal(4, f)
		wantAnswer(t, "IsNormal", 4, f, is, ok, true)
	}
}

// manyCycles has all lists of different elements where these are not too many, and otherwise some of each length.
func manyCycles(q int) [][]int {
	cycles := [][]int{nil}
	for _, list := range manyPermutations(q) {
		for n := range q {
			cycles = append(cycles, list[:n+1])
		}
	}
	return cycles
}

func TestPolysOfCyclesHaveTheirTables(t *testing.T) {
	for _, q := range sizes {
		for _, cycle := range manyCycles(q) {
			table := identityTable(q)
			for i := range cycle {
				before := (i + len(cycle) - 1) % len(cycle)
				table[cycle[before]] = cycle[i]
			}
			f, ok := impl.PolyOfCycle(q, cycle)
			wantPoly(t, fmt.Sprint("PolyOfCycle ", cycle), q, f, ok, table)
			if len(cycle) < 2 {
				wantList(t, fmt.Sprint("PolyOfCycle ", q, cycle), f, ok, 0, 1)
			}
			if len(cycle) == 2 {
				swap, ok := impl.SwapPoly(q, cycle[0], cycle[1])
				wantList(t, fmt.Sprint("SwapPoly ", q, cycle), swap, ok, f...)
			}
		}
	}
}

func TestPolysOfAllCyclesJoinToThePoly(t *testing.T) {
	list := must[[]int](t)
	for _, q := range sizes {
		for _, f := range permutingPolys(t, q) {
			cycles, ok := impl.CyclesOfPoly(q, f)
			if !ok {
				t.Errorf("CyclesOfPoly(%d, %v) failed", q, f)
			}
			joined := []int{0, 1}
			for _, cycle := range cycles {
				joined = list(impl.ComposePoly(q, joined, list(impl.PolyOfCycle(q, cycle))))
			}
			wantList(t, fmt.Sprint("the cycles over ", q), joined, true, f...)
		}
	}
}

func TestSwapsHaveTheirTables(t *testing.T) {
	for _, q := range sizes {
		for a := range q {
			for b := range q {
				table := identityTable(q)
				table[a], table[b] = b, a
				swap, ok := impl.SwapPoly(q, a, b)
				wantPoly(t, fmt.Sprint("SwapPoly ", a, b), q, swap, ok, table)
				if a == b {
					wantList(t, fmt.Sprint("SwapPoly ", q, a, b), swap, ok, 0, 1)
					continue
				}
				sign, ok := impl.SignOfPoly(q, swap)
				wantNumber(t, fmt.Sprint("SignOfPoly of a swap ", q, a, b), sign, ok, -1)
				back, ok := impl.InversePoly(q, swap)
				wantList(t, fmt.Sprint("InversePoly of a swap ", q, a, b), back, ok, swap...)
			}
		}
	}
}

func TestMaxCounted(t *testing.T) {
	if impl.MaxCounted != 7 {
		t.Error("MaxCounted", impl.MaxCounted)
	}
}
