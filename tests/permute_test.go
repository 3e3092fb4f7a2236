package tests

import (
	"fmt"
	"slices"
	"testing"

	"loop.example/g01163/impl"
)

// polysOf interpolates: chapter 2 is tested apart.
func polysOf(t *testing.T, q int, tables [][]int) [][]int {
	t.Helper()
	list := must[[]int](t)
	var polys [][]int
	for _, table := range tables {
		polys = append(polys, list(impl.PolyOf(q, table)))
	}
	return polys
}

func permutingPolys(t *testing.T, q int) [][]int {
	t.Helper()
	return polysOf(t, q, manyPermutations(q))
}

// mixedPolys has those that permute, those that nearly do, and others.
func mixedPolys(t *testing.T, q int) [][]int {
	t.Helper()
	return slices.Concat(permutingPolys(t, q), polysOf(t, q, tablesWithClashes(q)), manyPolys(q))
}

func wantRows(t *testing.T, name string, got [][]int, ok bool, want ...[]int) {
	t.Helper()
	if !ok || !slices.EqualFunc(got, want, slices.Equal) {
		t.Errorf("%s: got %v, %v, want %v", name, got, ok, want)
	}
}

func TestTablesSumsAndClashesTellAlikeWhatPermutes(t *testing.T) {
	for _, q := range sizes {
		m := modelPolysOfSize(q)
		met := map[bool]int{}
		for _, f := range mixedPolys(t, q) {
			table := m.table(f)
			want := isPermutation(table)
			met[want]++
			does, ok := impl.DoesPermute(q, f)
			wantAnswer(t, "DoesPermute", q, f, does, ok, want)
			does, ok = impl.ByPowerSums(q, f)
			wantAnswer(t, "ByPowerSums", q, f, does, ok, want)
			a, b, ok := impl.FirstClash(q, f)
			wantA, wantB, clashes := clashOf(table)
			if clashes == want {
				t.Errorf("the model tells %v over %d in two ways", f, q)
			}
			if a != wantA || b != wantB || ok != clashes {
				t.Errorf("FirstClash(%d, %v) = %d, %d, %v, want %d, %d, %v", q, f, a, b, ok, wantA, wantB, clashes)
			}
		}
		if met[true] == 0 || met[false] == 0 {
			t.Errorf("the polynomials over %d are of one kind: %v", q, met)
		}
	}
}

func TestEachPairCanBeTheFirstClash(t *testing.T) {
	for _, q := range sizes {
		met := map[[2]int]bool{}
		for _, f := range polysOf(t, q, tablesWithClashes(q)) {
			a, b, ok := impl.FirstClash(q, f)
			if !ok || a >= b || a < 0 || b >= q {
				t.Errorf("FirstClash(%d, %v) = %d, %d, %v", q, f, a, b, ok)
			}
			met[[2]int{a, b}] = true
		}
		if len(met) != q*(q-1)/2 {
			t.Errorf("over %d there are %d first clashes", q, len(met))
		}
	}
}

func TestWrittenClashes(t *testing.T) {
	for _, row := range []struct{ table, clash []int }{
		{[]int{1, 0, 0, 2, 1}, []int{0, 4}},
		{[]int{3, 2, 3, 2, 3}, []int{0, 2}},
		{[]int{0, 1, 2, 1, 2}, []int{1, 3}},
		{[]int{4, 1, 2, 3, 3}, []int{3, 4}},
		{[]int{2, 2, 2, 2, 2}, []int{0, 1}},
	} {
		f := polysOf(t, 5, [][]int{row.table})[0]
		a, b, ok := impl.FirstClash(5, f)
		wantList(t, fmt.Sprint("FirstClash of ", row.table), []int{a, b}, ok, row.clash...)
	}
	a, b, ok := impl.FirstClash(2, nil)
	wantList(t, "FirstClash of 0", []int{a, b}, ok, 0, 1)
}

func TestPowerSumsOfValues(t *testing.T) {
	for _, q := range sizes {
		m := modelPolysOfSize(q)
		for _, f := range append(somePolys(q, 1), allButMost(permutingPolys(t, q))...) {
			table := m.table(f)
			for k := 0; k <= 100; k++ {
				sum, ok := impl.PowerSumOf(q, f, k)
				wantNumber(t, fmt.Sprint("PowerSumOf ", q, f, k), sum, ok, m.powerSum(table, k))
			}
		}
	}
}

func TestPowerSumsOfThosePermutingAreThoseOfAllElements(t *testing.T) {
	number := must[int](t)
	for _, q := range sizes {
		for _, f := range allButMost(permutingPolys(t, q)) {
			for k := 0; k <= 100; k++ {
				sum, ok := impl.PowerSumOf(q, f, k)
				wantNumber(t, fmt.Sprint("PowerSumOf ", q, f, k), sum, ok, number(impl.SumOfAll(q, k)))
			}
		}
	}
}

func TestInversesUndoOnBothSides(t *testing.T) {
	for _, q := range sizes {
		m := modelPolysOfSize(q)
		for _, f := range permutingPolys(t, q) {
			inverse, ok := impl.InversePoly(q, f)
			wantPoly(t, fmt.Sprint("InversePoly ", f), q, inverse, ok, inverseTable(m.table(f)))
			joined, ok := impl.ComposePoly(q, f, inverse)
			wantList(t, fmt.Sprint("f at its inverse ", q, f), joined, ok, 0, 1)
			joined, ok = impl.ComposePoly(q, inverse, f)
			wantList(t, fmt.Sprint("the inverse at f ", q, f), joined, ok, 0, 1)
			back, ok := impl.InversePoly(q, inverse)
			wantList(t, fmt.Sprint("the inverse of the inverse ", q, f), back, ok, f...)
		}
	}
}

func TestCyclesShareAllElements(t *testing.T) {
	for _, q := range sizes {
		m := modelPolysOfSize(q)
		for _, f := range permutingPolys(t, q) {
			table := m.table(f)
			cycles, ok := impl.CyclesOfPoly(q, f)
			wantRows(t, fmt.Sprint("CyclesOfPoly ", q, f), cycles, ok, cyclesOf(table)...)
			checkCycles(t, table, cycles)
		}
	}
}

// checkCycles follows the document's words, apart from the model.
func checkCycles(t *testing.T, table []int, cycles [][]int) {
	t.Helper()
	if !isPermutation(slices.Concat(cycles...)) || len(slices.Concat(cycles...)) != len(table) {
		t.Errorf("the cycles %v of %v do not share all elements", cycles, table)
	}
	before := -1
	for _, cycle := range cycles {
		if len(cycle) == 0 || cycle[0] != slices.Min(cycle) || cycle[0] <= before {
			t.Errorf("the cycles %v of %v are in another order", cycles, table)
			return
		}
		before = cycle[0]
		for i, x := range cycle {
			if next := cycle[(i+1)%len(cycle)]; table[x] != next {
				t.Errorf("the cycle %v leads %d to %d, %v to %d", cycle, x, next, table, table[x])
			}
		}
	}
}

func TestOrdersAndSignsAreThoseOfTheCycles(t *testing.T) {
	for _, q := range sizes {
		m := modelPolysOfSize(q)
		for _, f := range permutingPolys(t, q) {
			table := m.table(f)
			order, ok := impl.OrderOfPoly(q, f)
			wantNumber(t, fmt.Sprint("OrderOfPoly ", q, f), order, ok, orderOf(table))
			sign, ok := impl.SignOfPoly(q, f)
			wantNumber(t, fmt.Sprint("SignOfPoly ", q, f), sign, ok, signOf(table))
			cycles, _ := impl.CyclesOfPoly(q, f)
			if even := (q-len(cycles))%2 == 0; even != (sign == 1) {
				t.Errorf("over %d %v has the sign %d and the cycles %v", q, f, sign, cycles)
			}
			for _, cycle := range cycles {
				if order%len(cycle) != 0 {
					t.Errorf("over %d %v has the order %d and the cycle %v", q, f, order, cycle)
				}
			}
		}
	}
}

// TestOrdersOfCyclesOfEachLength has cycles whose lengths have common divisors, and those with the greatest order of 16 elements.
func TestOrdersOfCyclesOfEachLength(t *testing.T) {
	for _, row := range []struct {
		q, order, sign int
		lengths        []int
	}{
		{2, 1, 1, nil}, {2, 2, -1, []int{2}}, {3, 3, 1, []int{3}}, {4, 2, 1, []int{2, 2}}, {5, 6, -1, []int{2, 3}},
		{8, 4, 1, []int{4, 2}}, {8, 15, 1, []int{3, 5}}, {9, 9, 1, []int{9}}, {11, 30, -1, []int{6, 5}}, {11, 30, -1, []int{2, 3, 5}},
		{13, 12, 1, []int{4, 6}}, {13, 6, -1, []int{6, 3, 2, 2}}, {13, 1, 1, []int{1}}, {16, 140, -1, []int{4, 5, 7}}, {16, 16, -1, []int{16}},
		{16, 12, -1, []int{4, 6, 2}}, {16, 24, 1, []int{8, 6, 1}}, {16, 2, 1, slices.Repeat([]int{2}, 8)}, {16, 60, -1, []int{4, 3, 5, 2, 2}},
	} {
		mix := mixer(row.q)
		table := mix.tableWithCycles(row.q, row.lengths...)
		f := polysOf(t, row.q, [][]int{table})[0]
		order, ok := impl.OrderOfPoly(row.q, f)
		wantNumber(t, fmt.Sprint("OrderOfPoly with cycles ", row.q, row.lengths), order, ok, row.order)
		sign, ok := impl.SignOfPoly(row.q, f)
		wantNumber(t, fmt.Sprint("SignOfPoly with cycles ", row.q, row.lengths), sign, ok, row.sign)
	}
}

func TestSignsOfJoinedPolysAreProducts(t *testing.T) {
	number, list := must[int](t), must[[]int](t)
	for _, q := range sizes {
		polys := allButMost(permutingPolys(t, q))
		for i, f := range polys {
			g := polys[(i*7+1)%len(polys)]
			joined, ok := impl.SignOfPoly(q, list(impl.ComposePoly(q, f, g)))
			wantNumber(t, fmt.Sprint("SignOfPoly ", q, f, g), joined, ok, number(impl.SignOfPoly(q, f))*number(impl.SignOfPoly(q, g)))
		}
	}
}

func TestIdentityHasCyclesOfOneElement(t *testing.T) {
	for _, q := range sizes {
		x := []int{0, 1}
		var want [][]int
		for a := range q {
			want = append(want, []int{a})
		}
		cycles, ok := impl.CyclesOfPoly(q, x)
		wantRows(t, fmt.Sprint("CyclesOfPoly ", q), cycles, ok, want...)
		order, ok := impl.OrderOfPoly(q, x)
		wantNumber(t, "OrderOfPoly of x", order, ok, 1)
		sign, ok := impl.SignOfPoly(q, x)
		wantNumber(t, "SignOfPoly of x", sign, ok, 1)
		fixed, ok := impl.FixedOf(q, x)
		wantList(t, "FixedOf x", fixed, ok, identityTable(q)...)
		inverse, ok := impl.InversePoly(q, x)
		wantList(t, "InversePoly of x", inverse, ok, 0, 1)
	}
}

func TestFixedElements(t *testing.T) {
	for _, q := range sizes {
		m := modelPolysOfSize(q)
		for _, f := range mixedPolys(t, q) {
			var want []int
			for x, y := range m.table(f) {
				if x == y {
					want = append(want, x)
				}
			}
			fixed, ok := impl.FixedOf(q, f)
			wantList(t, fmt.Sprint("FixedOf ", q, f), fixed, ok, want...)
		}
		fixed, ok := impl.FixedOf(q, nil)
		wantList(t, "FixedOf 0", fixed, ok, 0)
		fixed, ok = impl.FixedOf(q, []int{q - 1})
		wantList(t, "FixedOf q - 1", fixed, ok, q-1)
		fixed, ok = impl.FixedOf(q, []int{1, 1})
		wantList(t, "FixedOf x + 1", fixed, ok)
	}
}

func TestExamplesOfPermutingPolys(t *testing.T) {
	cube, square := []int{0, 0, 0, 1}, []int{0, 0, 1}
	table, ok := impl.TableOf(5, cube)
	wantList(t, "TableOf x^3", table, ok, 0, 1, 3, 2, 4)
	does, ok := impl.DoesPermute(5, cube)
	wantAnswer(t, "DoesPermute", 5, cube, does, ok, true)
	cycles, ok := impl.CyclesOfPoly(5, cube)
	wantRows(t, "CyclesOfPoly x^3", cycles, ok, []int{0}, []int{1}, []int{2, 3}, []int{4})
	inverse, ok := impl.InversePoly(5, cube)
	wantList(t, "InversePoly x^3", inverse, ok, cube...)
	order, ok := impl.OrderOfPoly(5, cube)
	wantNumber(t, "OrderOfPoly x^3", order, ok, 2)
	sign, ok := impl.SignOfPoly(5, cube)
	wantNumber(t, "SignOfPoly x^3", sign, ok, -1)
	fixed, ok := impl.FixedOf(5, cube)
	wantList(t, "FixedOf x^3", fixed, ok, 0, 1, 4)
	does, ok = impl.DoesPermute(5, square)
	wantAnswer(t, "DoesPermute", 5, square, does, ok, false)
	does, ok = impl.ByPowerSums(5, square)
	wantAnswer(t, "ByPowerSums", 5, square, does, ok, false)
	a, b, ok := impl.FirstClash(5, square)
	wantList(t, "FirstClash x^2", []int{a, b}, ok, 1, 4)
	sum, ok := impl.PowerSumOf(5, square, 2)
	wantNumber(t, "PowerSumOf x^2", sum, ok, 4)
	swap, ok := impl.SwapPoly(3, 0, 1)
	wantList(t, "SwapPoly", swap, ok, 1, 2)
}

// TestPermutingOverTheFieldOfTwo has the least field, where no sum of powers has to be 0.
func TestPermutingOverTheFieldOfTwo(t *testing.T) {
	for _, row := range []struct {
		f        []int
		permutes bool
	}{{nil, false}, {[]int{1}, false}, {[]int{0, 1}, true}, {[]int{1, 1}, true}} {
		does, ok := impl.DoesPermute(2, row.f)
		wantAnswer(t, "DoesPermute", 2, row.f, does, ok, row.permutes)
		does, ok = impl.ByPowerSums(2, row.f)
		wantAnswer(t, "ByPowerSums", 2, row.f, does, ok, row.permutes)
	}
	cycles, ok := impl.CyclesOfPoly(2, []int{1, 1})
	wantRows(t, "CyclesOfPoly", cycles, ok, []int{0, 1})
	sign, ok := impl.SignOfPoly(2, []int{1, 1})
	wantNumber(t, "SignOfPoly", sign, ok, -1)
}
