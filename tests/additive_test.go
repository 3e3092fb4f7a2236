package tests

import (
	"fmt"
	"slices"
	"testing"

	"loop.example/g01163/impl"
)

func TestMaxRows(t *testing.T) {
	if impl.MaxRows != 4 {
		t.Error("MaxRows", impl.MaxRows)
	}
}

func TestAdditivePolysAreThoseOfTheirCoefficients(t *testing.T) {
	for _, q := range sizes {
		m := modelPolysOfSize(q)
		for _, coefficients := range coefficientLists(q) {
			want := additiveTerms(q, coefficients)
			table := m.table(want)
			if !m.keepsSums(table) {
				t.Errorf("the model tells that %v over %d is not additive", want, q)
			}
			f, ok := impl.AdditiveOf(q, coefficients)
			wantList(t, fmt.Sprint("AdditiveOf ", q, coefficients), f, ok, want...)
			wantPoly(t, fmt.Sprint("AdditiveOf ", coefficients), q, f, ok, table)
			back, ok := impl.CoefficientsOf(q, f)
			wantList(t, fmt.Sprint("CoefficientsOf ", q, f), back, ok, coefficients...)
			is, ok := impl.IsAdditive(q, f)
			wantAnswer(t, "IsAdditive", q, f, is, ok, true)
			is, ok = impl.IsAdditiveTable(q, table)
			wantAnswer(t, "IsAdditiveTable", q, table, is, ok, true)
		}
	}
}

// TestAllAdditivePolysAreCounted takes all lists of coefficients, and so all polynomials with powers of the prime alone.
func TestAllAdditivePolysAreCounted(t *testing.T) {
	for _, q := range sizes {
		m := modelPolysOfSize(q)
		var powers [][]int
		for _, n := range primePowers(q) {
			powers = append(powers, m.table(powerTerms(n)))
		}
		all, permuting := 0, 0
		for _, coefficients := range allLists(q, len(powers)) {
			f, ok := impl.AdditiveOf(q, coefficients)
			back, okToo := impl.CoefficientsOf(q, f)
			if !ok || !okToo || !slices.Equal(back, coefficients) {
				t.Fatalf("AdditiveOf(%d, %v) = %v, %v, with the coefficients %v, %v", q, coefficients, f, ok, back, okToo)
			}
			all++
			table := make([]int, q)
			for i, c := range coefficients {
				table = m.sumsOf(table, joinedTable(m.products[c], powers[i]))
			}
			if isPermutation(table) {
				permuting++
			}
		}
		count, ok := impl.CountAdditive(q)
		wantNumber(t, fmt.Sprint("CountAdditive ", q), count, ok, all)
		count, ok = impl.CountAdditivePermuting(q)
		wantNumber(t, fmt.Sprint("CountAdditivePermuting ", q), count, ok, permuting)
	}
}

func TestWrittenCountsOfAdditivePolys(t *testing.T) {
	for q, want := range map[int][2]int{2: {2, 1}, 3: {3, 2}, 4: {16, 6}, 5: {5, 4}, 7: {7, 6}, 8: {512, 168}, 9: {81, 48}, 11: {11, 10}, 13: {13, 12}, 16: {65536, 20160}} {
		count, ok := impl.CountAdditive(q)
		wantNumber(t, fmt.Sprint("CountAdditive ", q), count, ok, want[0])
		count, ok = impl.CountAdditivePermuting(q)
		wantNumber(t, fmt.Sprint("CountAdditivePermuting ", q), count, ok, want[1])
	}
}

// judgedPolys has additive ones, some with elements added or with other coefficients changed, and others.
func judgedPolys(q int) [][]int {
	return slices.Concat(additivePolys(q), movedPolys(q), changedPolys(q), manyPolys(q))
}

func TestWhichPolysAreAdditiveOrMoved(t *testing.T) {
	for _, q := range sizes {
		m := modelPolysOfSize(q)
		met := map[[2]bool]int{}
		for _, f := range judgedPolys(q) {
			table := m.table(f)
			additive, moved := m.keepsSums(table), m.keepsSums(m.lessFirst(table))
			met[[2]bool{additive, moved}]++
			is, ok := impl.IsAdditive(q, f)
			wantAnswer(t, "IsAdditive", q, f, is, ok, additive)
			is, ok = impl.IsAdditiveTable(q, table)
			wantAnswer(t, "IsAdditiveTable", q, table, is, ok, additive)
			is, ok = impl.IsMoved(q, f)
			wantAnswer(t, "IsMoved", q, f, is, ok, moved)
		}
		// Over the field of 2 all polynomials are x or 0 plus an element.
		if met[[2]bool{true, true}] == 0 || met[[2]bool{false, true}] == 0 || met[[2]bool{false, false}] == 0 && q > 2 {
			t.Errorf("the polynomials over %d are of these kinds: %v", q, met)
		}
	}
}

func TestAdditivePolysAmongAllAreCounted(t *testing.T) {
	number, yes := must[int](t), must[bool](t)
	for _, q := range []int{2, 3, 4, 5} {
		additive, moved, permuting := 0, 0, 0
		for _, f := range manyPolys(q) {
			if yes(impl.IsMoved(q, f)) {
				moved++
			}
			if !yes(impl.IsAdditive(q, f)) {
				continue
			}
			additive++
			if yes(impl.DoesPermute(q, f)) {
				permuting++
			}
		}
		wantNumber(t, fmt.Sprint("additive ones over ", q), additive, true, number(impl.CountAdditive(q)))
		wantNumber(t, fmt.Sprint("moved ones over ", q), moved, true, q*number(impl.CountAdditive(q)))
		wantNumber(t, fmt.Sprint("permuting ones over ", q), permuting, true, number(impl.CountAdditivePermuting(q)))
	}
}

func TestTheZeroAndConstants(t *testing.T) {
	for _, q := range sizes {
		for c := range q {
			f := withoutZeros([]int{c})
			is, ok := impl.IsAdditive(q, f)
			wantAnswer(t, "IsAdditive", q, f, is, ok, c == 0)
			is, ok = impl.IsAdditiveTable(q, slices.Repeat([]int{c}, q))
			wantAnswer(t, "IsAdditiveTable", q, f, is, ok, c == 0)
			is, ok = impl.IsMoved(q, f)
			wantAnswer(t, "IsMoved", q, f, is, ok, true)
		}
	}
}

// TestTablesWithOneOtherValue changes additive tables at each place: the sums of two elements alone tell it then.
func TestTablesWithOneOtherValue(t *testing.T) {
	for _, q := range sizes {
		m := modelPolysOfSize(q)
		for _, f := range allButMost(additivePolys(q)) {
			table := m.table(f)
			for x := range q {
				for a := 1; a < q; a++ {
					changed := slices.Clone(table)
					changed[x] = m.sums[changed[x]][a]
					is, ok := impl.IsAdditiveTable(q, changed)
					wantAnswer(t, "IsAdditiveTable", q, changed, is, ok, m.keepsSums(changed))
				}
			}
		}
	}
}

// TestTablesThatBreakFewSums has maps that keep multiples, or sums in a part of the field, alone.
func TestTablesThatBreakFewSums(t *testing.T) {
	for _, q := range sizes {
		m := modelPolysOfSize(q)
		for _, f := range allButMost(additivePolys(q)) {
			table := m.table(f)
			for n := 1; n < q; n++ {
				other := slices.Clone(table)
				for x := n; x < q; x++ {
					other[x] = m.sums[other[x]][1]
				}
				is, ok := impl.IsAdditiveTable(q, other)
				wantAnswer(t, "IsAdditiveTable", q, other, is, ok, m.keepsSums(other))
				power := m.table(powerTerms(n))
				is, ok = impl.IsAdditiveTable(q, power)
				wantAnswer(t, "IsAdditiveTable", q, power, is, ok, slices.Contains(primePowers(q), n))
			}
		}
	}
}

func TestRowsAndAdditivePolysTellEachOther(t *testing.T) {
	number := must[int](t)
	for _, q := range sizes {
		met := map[string]bool{}
		for _, rows := range manyRows(q) {
			f, ok := impl.FromRows(q, rows)
			wantPoly(t, fmt.Sprint("FromRows ", rows), q, f, ok, tableOfRows(q, rows))
			met[fmt.Sprint(f)] = true
			is, ok := impl.IsAdditive(q, f)
			wantAnswer(t, "IsAdditive", q, f, is, ok, true)
			back, ok := impl.RowsOf(q, f)
			wantRows(t, fmt.Sprint("RowsOf ", q, f), back, ok, rows...)
		}
		if len(met) != len(manyRows(q)) || q != 16 && len(met) != number(impl.CountAdditive(q)) {
			t.Errorf("over %d there are %d polynomials with rows", q, len(met))
		}
	}
}

func TestRowsAreTheDigitsOfValues(t *testing.T) {
	list := must[[]int](t)
	for _, q := range sizes {
		m := modelPolysOfSize(q)
		for _, f := range additivePolys(q) {
			rows, ok := impl.RowsOf(q, f)
			wantRows(t, fmt.Sprint("RowsOf ", q, f), rows, ok, rowsOfTable(q, m.table(f))...)
			back, ok := impl.FromRows(q, rows)
			wantList(t, fmt.Sprint("FromRows ", q, rows), back, ok, f...)
		}
		for _, f := range allButMost(additivePolys(q)) {
			rows, ok := impl.RowsOf(q, f)
			if !ok || len(rows) != modelOf(q).places {
				t.Fatalf("RowsOf(%d, %v) = %v, %v", q, f, rows, ok)
			}
			for i, x := range primePowers(q) {
				value, _ := impl.ValueAt(q, f, x)
				wantList(t, fmt.Sprint("RowsOf ", q, f, i), rows[i], ok, list(impl.DigitsOf(q, value))...)
			}
		}
	}
}

func TestKernelsAndImagesShareTheSize(t *testing.T) {
	for _, q := range sizes {
		m, prime := modelPolysOfSize(q), modelOf(q).prime
		ranks := map[int]int{}
		for _, f := range additivePolys(q) {
			table, of := m.table(f), fmt.Sprint(q, f)
			kernel, ok := impl.KernelOf(q, f)
			wantList(t, "KernelOf "+of, kernel, ok, placesIn(table, 0)...)
			image, ok := impl.ImageOf(q, f)
			wantList(t, "ImageOf "+of, image, ok, differentIn(table)...)
			if len(kernel)*len(image) != q {
				t.Errorf("%v over %d has the kernel %v and the image %v", f, q, kernel, image)
			}
			rank, ok := impl.RankOf(q, f)
			if !ok || power(prime, rank) != len(image) {
				t.Errorf("RankOf(%d, %v) = %d, %v for the image %v", q, f, rank, ok, image)
			}
			ranks[rank]++
		}
		if len(ranks) != modelOf(q).places+1 {
			t.Errorf("over %d the ranks are %v", q, ranks)
		}
	}
}

func TestKernelsMayBeZeroAlone(t *testing.T) {
	for _, q := range sizes {
		m, places := modelPolysOfSize(q), modelOf(q).places
		for _, f := range additivePolys(q) {
			rank, ok := impl.RankOf(q, f)
			kernel, okToo := impl.KernelOf(q, f)
			alone := okToo && slices.Equal(kernel, []int{0})
			wantYes(t, fmt.Sprint("kernel 0 alone ", q, f), alone, ok, isPermutation(m.table(f)))
			wantYes(t, fmt.Sprint("rank k ", q, f), rank == places, ok, alone)
		}
		kernel, ok := impl.KernelOf(q, []int{0, 1})
		wantList(t, fmt.Sprint("KernelOf x ", q), kernel, ok, 0)
		kernel, ok = impl.KernelOf(q, nil)
		wantList(t, fmt.Sprint("KernelOf 0 ", q), kernel, ok, identityTable(q)...)
		image, ok := impl.ImageOf(q, nil)
		wantList(t, fmt.Sprint("ImageOf 0 ", q), image, ok, 0)
		rank, ok := impl.RankOf(q, nil)
		wantNumber(t, fmt.Sprint("RankOf 0 ", q), rank, ok, 0)
	}
}

func TestEachValueIsMetAsOftenAsThereAreInTheKernel(t *testing.T) {
	list := must[[]int](t)
	for _, q := range sizes {
		m := modelPolysOfSize(q)
		none := 0
		for _, f := range additivePolys(q) {
			table, kernel, image := m.table(f), list(impl.KernelOf(q, f)), list(impl.ImageOf(q, f))
			for b := range q {
				of := fmt.Sprint("SolveAdditive ", q, f, b)
				solutions, ok := impl.SolveAdditive(q, f, b)
				wantList(t, of, solutions, ok, placesIn(table, b)...)
				want := len(kernel)
				if !slices.Contains(image, b) {
					want = 0
					none++
				}
				wantNumber(t, "how many, "+of, len(solutions), ok, want)
			}
			solutions, ok := impl.SolveAdditive(q, f, 0)
			wantList(t, fmt.Sprint("SolveAdditive ", q, f), solutions, ok, kernel...)
		}
		if none == 0 {
			t.Errorf("over %d each element is a value", q)
		}
	}
}

func TestAdditiveInversesTakeBackTheValues(t *testing.T) {
	list := must[[]int](t)
	for _, q := range sizes {
		m := modelPolysOfSize(q)
		met := map[bool]int{}
		for _, f := range additivePolys(q) {
			table, of := m.table(f), fmt.Sprint(q, f)
			permutes := isPermutation(table)
			met[permutes]++
			inverse, ok := impl.AdditiveInverse(q, f)
			if !permutes {
				failsList(t, "AdditiveInverse", inverse, ok, append([]int{q}, f...)...)
				continue
			}
			wantPoly(t, "AdditiveInverse "+of, q, inverse, ok, inverseTable(table))
			wantList(t, "AdditiveInverse "+of, inverse, ok, list(impl.InversePoly(q, f))...)
			is, ok := impl.IsAdditive(q, inverse)
			wantAnswer(t, "IsAdditive of the inverse", q, inverse, is, ok, true)
			back, ok := impl.AdditiveInverse(q, inverse)
			wantList(t, "the inverse of the inverse "+of, back, ok, f...)
		}
		if met[true] == 0 || met[false] == 0 {
			t.Errorf("the polynomials over %d are of one kind: %v", q, met)
		}
	}
}

func TestTracePairsAreTracesOfProducts(t *testing.T) {
	number := must[int](t)
	for _, q := range sizes {
		pairs := modelPolysOfSize(q).tracePairs()
		for a := range q {
			for b := range q {
				name := fmt.Sprint("TracePair ", q, a, b)
				trace, ok := impl.TracePair(q, a, b)
				wantNumber(t, name, trace, ok, pairs[a][b])
				wantNumber(t, name, trace, ok, number(impl.TraceOf(q, number(impl.TimesOf(q, a, b)))))
				if trace < 0 || trace >= modelOf(q).prime {
					t.Errorf("%s = %d", name, trace)
				}
			}
		}
	}
}

func TestAdjointsAreToldByTraces(t *testing.T) {
	for _, q := range sizes {
		m := modelPolysOfSize(q)
		pairs := m.tracePairs()
		for _, f := range additivePolys(q) {
			adjoint, ok := impl.AdjointOf(q, f)
			wantPoly(t, fmt.Sprint("AdjointOf ", f), q, adjoint, ok, adjointTable(pairs, m.table(f)))
			is, ok := impl.IsAdditive(q, adjoint)
			wantAnswer(t, "IsAdditive of the adjoint", q, adjoint, is, ok, true)
			back, ok := impl.AdjointOf(q, adjoint)
			wantList(t, fmt.Sprint("the adjoint of the adjoint ", q, f), back, ok, f...)
			rank, ok := impl.RankOf(q, f)
			adjointRank, okToo := impl.RankOf(q, adjoint)
			wantNumber(t, fmt.Sprint("RankOf the adjoint ", q, f), adjointRank, ok && okToo, rank)
		}
	}
}

// TestTracePairsCarryPolysToTheirAdjoints asks the program alone, at all pairs.
func TestTracePairsCarryPolysToTheirAdjoints(t *testing.T) {
	list, number := must[[]int](t), must[int](t)
	for _, q := range sizes {
		for _, f := range allButMost(additivePolys(q)) {
			table, adjoint := list(impl.TableOf(q, f)), list(impl.TableOf(q, list(impl.AdjointOf(q, f))))
			for x := range q {
				for y := range q {
					trace, ok := impl.TracePair(q, table[x], y)
					wantNumber(t, fmt.Sprint("TracePair of ", q, f, x, y), trace, ok, number(impl.TracePair(q, x, adjoint[y])))
				}
			}
		}
	}
}

func TestAdjointsOfJoinedPolysAreJoinedBackwards(t *testing.T) {
	list := must[[]int](t)
	for _, q := range sizes {
		polys := allButMost(additivePolys(q))
		for i, f := range polys {
			g := polys[(i*7+1)%len(polys)]
			want := list(impl.ComposePoly(q, list(impl.AdjointOf(q, g)), list(impl.AdjointOf(q, f))))
			got, ok := impl.AdjointOf(q, list(impl.ComposePoly(q, f, g)))
			wantList(t, fmt.Sprint("AdjointOf joined ones ", q, f, g), got, ok, want...)
		}
	}
}

func TestExamplesOfAdditivePolys(t *testing.T) {
	square, both := []int{0, 0, 1}, []int{0, 1, 1}
	is, ok := impl.IsAdditive(4, square)
	wantAnswer(t, "IsAdditive", 4, square, is, ok, true)
	rows, ok := impl.RowsOf(4, square)
	wantRows(t, "RowsOf", rows, ok, []int{1, 0}, []int{1, 1})
	kernel, ok := impl.KernelOf(4, both)
	wantList(t, "KernelOf", kernel, ok, 0, 1)
	image, ok := impl.ImageOf(4, both)
	wantList(t, "ImageOf", image, ok, 0, 1)
	rank, ok := impl.RankOf(4, both)
	wantNumber(t, "RankOf", rank, ok, 1)
	count, ok := impl.CountAdditive(9)
	wantNumber(t, "CountAdditive", count, ok, 9*9)
	count, ok = impl.CountAdditivePermuting(9)
	wantNumber(t, "CountAdditivePermuting", count, ok, 48)
}

// writtenAdditive was worked out by hand: rows, kernels, images, ranks, inverses where there are some, and adjoints.
var writtenAdditive = []struct {
	q, rank                                       int
	coefficients, f, kernel, image, back, adjoint []int
	rows                                          [][]int
}{
	{2, 1, []int{1}, []int{0, 1}, []int{0}, []int{0, 1}, []int{0, 1}, []int{0, 1}, [][]int{{1}}},
	{5, 1, []int{3}, []int{0, 3}, []int{0}, []int{0, 1, 2, 3, 4}, []int{0, 2}, []int{0, 3}, [][]int{{3}}},
	{4, 1, []int{1, 1}, []int{0, 1, 1}, []int{0, 1}, []int{0, 1}, nil, []int{0, 1, 1}, [][]int{{0, 0}, {1, 0}}},
	{4, 2, []int{0, 2}, []int{0, 0, 2}, []int{0}, []int{0, 1, 2, 3}, []int{0, 0, 2}, []int{0, 0, 3}, [][]int{{0, 1}, {1, 0}}},
	{9, 2, []int{0, 1}, []int{0, 0, 0, 1}, []int{0}, []int{0, 1, 2, 3, 4, 5, 6, 7, 8}, []int{0, 0, 0, 1}, []int{0, 0, 0, 1}, [][]int{{1, 0}, {0, 2}}},
	{9, 1, []int{2, 1}, []int{0, 2, 0, 1}, []int{0, 1, 2}, []int{0, 3, 6}, nil, []int{0, 2, 0, 1}, [][]int{{0, 0}, {0, 1}}},
	{8, 2, []int{1, 1, 0}, []int{0, 1, 1}, []int{0, 1}, []int{0, 2, 4, 6}, nil, []int{0, 1, 0, 0, 1}, [][]int{{0, 0, 0}, {0, 1, 1}, {0, 1, 0}}},
	{8, 1, []int{1, 1, 1}, []int{0, 1, 1, 0, 1}, []int{0, 2, 4, 6}, []int{0, 1}, nil, []int{0, 1, 1, 0, 1}, [][]int{{1, 0, 0}, {0, 0, 0}, {0, 0, 0}}},
	{8, 3, []int{0, 1, 0}, []int{0, 0, 1}, []int{0}, []int{0, 1, 2, 3, 4, 5, 6, 7}, []int{0, 0, 0, 0, 1}, []int{0, 0, 0, 0, 1}, [][]int{{1, 0, 0}, {0, 0, 1}, {0, 1, 1}}},
	{16, 2, []int{1, 0, 1, 0}, []int{0, 1, 0, 0, 1}, []int{0, 1, 6, 7}, []int{0, 1, 6, 7}, nil, []int{0, 1, 0, 0, 1}, [][]int{{0, 0, 0, 0}, {1, 0, 0, 0}, {1, 0, 0, 0}, {1, 1, 1, 0}}},
}

func TestWrittenAdditivePolys(t *testing.T) {
	for _, row := range writtenAdditive {
		of := fmt.Sprint(row.q, row.f)
		f, ok := impl.AdditiveOf(row.q, row.coefficients)
		wantList(t, "AdditiveOf "+of, f, ok, row.f...)
		back, ok := impl.CoefficientsOf(row.q, row.f)
		wantList(t, "CoefficientsOf "+of, back, ok, row.coefficients...)
		rows, ok := impl.RowsOf(row.q, row.f)
		wantRows(t, "RowsOf "+of, rows, ok, row.rows...)
		f, ok = impl.FromRows(row.q, row.rows)
		wantList(t, "FromRows "+of, f, ok, row.f...)
		kernel, ok := impl.KernelOf(row.q, row.f)
		wantList(t, "KernelOf "+of, kernel, ok, row.kernel...)
		image, ok := impl.ImageOf(row.q, row.f)
		wantList(t, "ImageOf "+of, image, ok, row.image...)
		rank, ok := impl.RankOf(row.q, row.f)
		wantNumber(t, "RankOf "+of, rank, ok, row.rank)
		inverse, ok := impl.AdditiveInverse(row.q, row.f)
		wantList(t, "AdditiveInverse "+of, inverse, ok == (row.back != nil), row.back...)
		adjoint, ok := impl.AdjointOf(row.q, row.f)
		wantList(t, "AdjointOf "+of, adjoint, ok, row.adjoint...)
	}
}

func TestWrittenSolutionsAndTraces(t *testing.T) {
	for _, row := range []struct {
		q       int
		f       []int
		b       int
		written []int
	}{
		{4, []int{0, 1, 1}, 1, []int{2, 3}}, {4, []int{0, 1, 1}, 2, nil}, {5, []int{0, 3}, 4, []int{3}}, {5, nil, 0, []int{0, 1, 2, 3, 4}}, {5, nil, 1, nil},
		{8, []int{0, 1, 1, 0, 1}, 1, []int{1, 3, 5, 7}}, {9, []int{0, 2, 0, 1}, 3, []int{3, 4, 5}}, {16, []int{0, 1, 0, 0, 1}, 1, []int{2, 3, 4, 5}},
	} {
		solutions, ok := impl.SolveAdditive(row.q, row.f, row.b)
		wantList(t, fmt.Sprint("SolveAdditive ", row.q, row.f, row.b), solutions, ok, row.written...)
	}
	for _, row := range [][4]int{{2, 1, 1, 1}, {4, 2, 3, 0}, {4, 2, 1, 1}, {5, 2, 4, 3}, {8, 1, 1, 1}, {8, 2, 1, 0}, {9, 1, 1, 2}, {9, 3, 3, 1}, {9, 3, 1, 0}, {16, 1, 1, 0}, {16, 15, 0, 0}} {
		trace, ok := impl.TracePair(row[0], row[1], row[2])
		wantNumber(t, fmt.Sprint("TracePair ", row), trace, ok, row[3])
	}
}

func TestWrittenMovedPolys(t *testing.T) {
	for _, row := range []struct {
		q               int
		f               []int
		additive, moved bool
	}{
		{2, []int{1, 1}, false, true}, {5, nil, true, true}, {5, []int{3}, false, true}, {5, []int{3, 2}, false, true}, {5, []int{1, 0, 1}, false, false}, {5, []int{0, 0, 0, 0, 1}, false, false},
		{4, []int{2, 1, 3}, false, true}, {4, []int{0, 1, 3}, true, true}, {4, []int{1, 0, 0, 1}, false, false}, {4, []int{0, 0, 0, 1}, false, false},
		{9, []int{4, 1, 0, 5}, false, true}, {9, []int{0, 0, 1}, false, false}, {9, []int{0, 1, 0, 0, 0, 0, 1}, false, false}, {16, []int{0, 1, 0, 0, 0, 0, 0, 0, 15}, true, true},
		{16, []int{7, 0, 0, 0, 0, 0, 0, 0, 15}, false, true}, {16, []int{0, 1, 1, 0, 1, 0, 1}, false, false},
	} {
		is, ok := impl.IsAdditive(row.q, row.f)
		wantAnswer(t, "IsAdditive", row.q, row.f, is, ok, row.additive)
		is, ok = impl.IsMoved(row.q, row.f)
		wantAnswer(t, "IsMoved", row.q, row.f, is, ok, row.moved)
	}
}
