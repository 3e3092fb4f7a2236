package tests

import (
	"fmt"
	"slices"
	"testing"

	"loop.example/g01163/impl"
)

// differedPolys has all polynomials where these are not too many, and otherwise best ones, some that are nearly so, and others.
func differedPolys(t *testing.T, q int) [][]int {
	t.Helper()
	if q <= 5 {
		return manyPolys(q)
	}
	return slices.Concat(manyPolys(q), powerPolys(q), bestPolys(q), quadraticPolys(q, 60), polysOf(t, q, changedTables(q)), polysOf(t, q, steppedTables(q, 40)))
}

func wantNoList(t *testing.T, name string, got []int, ok bool) {
	t.Helper()
	if ok || len(got) != 0 {
		t.Errorf("%s: got %v, %v, want none, false", name, got, ok)
	}
}

// wantBest asks both: the one that is for fields of the other kind has to fail.
func wantBest(t *testing.T, q int, f []int, want bool) {
	t.Helper()
	planar, okPlanar := impl.IsPlanar(q, f)
	perfect, okPerfect := impl.IsAlmostPerfect(q, f)
	odd := q%2 == 1
	if planar != (want && odd) || okPlanar != odd {
		t.Errorf("IsPlanar(%d, %v) = %v, %v", q, f, planar, okPlanar)
	}
	if perfect != (want && !odd) || okPerfect == odd {
		t.Errorf("IsAlmostPerfect(%d, %v) = %v, %v", q, f, perfect, okPerfect)
	}
}

func TestMaxPlanar(t *testing.T) {
	if impl.MaxPlanar != 5 {
		t.Error("MaxPlanar", impl.MaxPlanar)
	}
}

func TestDifferencesHaveTheirValuesAndCounts(t *testing.T) {
	list := must[[]int](t)
	for _, q := range sizes {
		m := modelPolysOfSize(q)
		for _, f := range differedPolys(t, q) {
			table := m.table(f)
			for a := 1; a < q; a++ {
				of, values := fmt.Sprint(q, f, a), m.difference(table, a)
				difference, ok := impl.DifferencePoly(q, f, a)
				wantPoly(t, "DifferencePoly "+of, q, difference, ok, values)
				counts, ok := impl.DifferenceCounts(q, f, a)
				wantList(t, "DifferenceCounts "+of, counts, ok, placeCountsIn(values)...)
				wantList(t, "DifferenceCounts "+of, counts, ok, list(impl.PlaceCounts(q, difference))...)
				wantNumber(t, "sum of DifferenceCounts "+of, sumOfNumbers(counts), ok, q)
			}
		}
	}
}

// TestDifferencesOfTheCallsOfChapterTwo asks the program alone.
func TestDifferencesOfTheCallsOfChapterTwo(t *testing.T) {
	list, number := must[[]int](t), must[int](t)
	for _, q := range sizes {
		minus := number(impl.LessOf(q, 0, 1))
		for _, f := range allButMost(differedPolys(t, q)) {
			for a := 1; a < q; a++ {
				want := list(impl.PlusPoly(q, list(impl.ShiftPoly(q, f, a)), list(impl.ScalePoly(q, f, minus))))
				difference, ok := impl.DifferencePoly(q, f, a)
				wantList(t, fmt.Sprint("DifferencePoly ", q, f, a), difference, ok, want...)
				if len(f) > 1 && len(difference) >= len(f) {
					t.Errorf("the difference of %v by %d over %d has no lesser degree: %v", f, a, q, difference)
				}
			}
		}
	}
}

func TestCountsAreSpreadAsTold(t *testing.T) {
	for _, q := range sizes {
		m := modelPolysOfSize(q)
		for _, f := range differedPolys(t, q) {
			of, counts := fmt.Sprint(q, f), m.allDifferenceCounts(m.table(f))
			greatest, ok := impl.GreatestCount(q, f)
			wantNumber(t, "GreatestCount "+of, greatest, ok, slices.Max(counts))
			spread, ok := impl.SpreadOfCounts(q, f)
			wantList(t, "SpreadOfCounts "+of, spread, ok, spreadOf(q, counts)...)
			wantNumber(t, "sum of SpreadOfCounts "+of, sumOfNumbers(spread), ok, q*(q-1))
		}
	}
}

// TestSpreadsAreThoseOfDifferenceCounts asks the program alone, one difference after the other.
func TestSpreadsAreThoseOfDifferenceCounts(t *testing.T) {
	list := must[[]int](t)
	for _, q := range sizes {
		for _, f := range allButMost(differedPolys(t, q)) {
			var counts []int
			for a := 1; a < q; a++ {
				counts = append(counts, list(impl.DifferenceCounts(q, f, a))...)
			}
			greatest, ok := impl.GreatestCount(q, f)
			wantNumber(t, fmt.Sprint("GreatestCount ", q, f), greatest, ok, slices.Max(counts))
			spread, ok := impl.SpreadOfCounts(q, f)
			wantList(t, fmt.Sprint("SpreadOfCounts ", q, f), spread, ok, spreadOf(q, counts)...)
		}
	}
}

func TestPlanarAndAlmostPerfectPolysRepeatNothing(t *testing.T) {
	for _, q := range sizes {
		m := modelPolysOfSize(q)
		best, first := map[bool]int{}, map[int]int{}
		for _, f := range differedPolys(t, q) {
			table, of := m.table(f), fmt.Sprint(q, f)
			want := m.isBest(table)
			best[want]++
			wantBest(t, q, f, want)
			repeated, ok := impl.FirstRepeated(q, f)
			if want {
				wantNoList(t, "FirstRepeated "+of, repeated, ok)
				continue
			}
			wantList(t, "FirstRepeated "+of, repeated, ok, m.firstRepeated(table)...)
			if len(repeated) > 0 {
				first[repeated[0]]++
			}
		}
		// Over the field of 2 all polynomials are almost perfect. Over those of 3 and 4 either all differences repeat values or none does.
		if best[true] == 0 || best[false] == 0 && q > 2 {
			t.Errorf("the polynomials over %d are of one kind: %v", q, best)
		}
		if first[1] == 0 && q > 2 || len(first) < 2 && q > 4 {
			t.Errorf("the first differences with repeated values over %d are by %v", q, first)
		}
	}
}

// TestBestPolysAreThoseWhoseDifferencesPermuteOrAreTwoToOne asks the program alone. Over even fields no value of a difference has one place.
func TestBestPolysAreThoseWhoseDifferencesPermuteOrAreTwoToOne(t *testing.T) {
	list, yes := must[[]int](t), must[bool](t)
	for _, q := range sizes {
		judge := impl.DoesPermute
		if q%2 == 0 {
			judge = impl.IsTwoToOne
		}
		for _, f := range slices.Concat(bestPolys(q), allButMost(differedPolys(t, q))) {
			all := true
			for a := 1; a < q; a++ {
				all = yes(judge(q, list(impl.DifferencePoly(q, f, a)))) && all
			}
			wantBest(t, q, f, all)
		}
	}
}

// TestRepeatedValuesAreValuesOfDifferences asks the program alone.
func TestRepeatedValuesAreValuesOfDifferences(t *testing.T) {
	list, number := must[[]int](t), must[int](t)
	for _, q := range sizes {
		for _, f := range allButMost(differedPolys(t, q)) {
			repeated, ok := impl.FirstRepeated(q, f)
			if !ok {
				wantBest(t, q, f, true)
				continue
			}
			if len(repeated) != 3 || repeated[0] < 1 || repeated[1] >= repeated[2] {
				t.Errorf("FirstRepeated(%d, %v) = %v", q, f, repeated)
				continue
			}
			a, x, y := repeated[0], repeated[1], repeated[2]
			difference := list(impl.DifferencePoly(q, f, a))
			value, other := number(impl.ValueAt(q, difference, x)), number(impl.ValueAt(q, difference, y))
			if value != other || q%2 == 0 && number(impl.PlusOf(q, x, a)) == y {
				t.Errorf("FirstRepeated(%d, %v) = %v, where the values are %d and %d", q, f, repeated, value, other)
			}
			wantBest(t, q, f, false)
		}
	}
}

// TestPolysWithConstantDifferences has those whose differences have all x as places of one value.
func TestPolysWithConstantDifferences(t *testing.T) {
	for _, q := range sizes {
		for _, f := range slices.Concat([][]int{nil, {1}, {q - 1}, {0, 1}, {q - 1, q - 1}}, allButMost(additivePolys(q))) {
			of := fmt.Sprint(q, f)
			greatest, ok := impl.GreatestCount(q, f)
			wantNumber(t, "GreatestCount "+of, greatest, ok, q)
			spread, ok := impl.SpreadOfCounts(q, f)
			want := make([]int, q+1)
			want[0], want[q] = (q-1)*(q-1), q-1
			wantList(t, "SpreadOfCounts "+of, spread, ok, want...)
			wantBest(t, q, f, q == 2)
			repeated, ok := impl.FirstRepeated(q, f)
			switch {
			case q == 2:
				wantNoList(t, "FirstRepeated "+of, repeated, ok)
			case q%2 == 0:
				wantList(t, "FirstRepeated "+of, repeated, ok, 1, 0, 2)
			default:
				wantList(t, "FirstRepeated "+of, repeated, ok, 1, 0, 1)
			}
		}
	}
}

func TestAllPlanarPolysAreCounted(t *testing.T) {
	yes := must[bool](t)
	for _, q := range []int{3, 5} {
		m := modelPolysOfSize(q)
		found, searched := 0, 0
		for _, f := range manyPolys(q) {
			if m.isPlanar(m.table(f)) {
				searched++
			}
			if !yes(impl.IsPlanar(q, f)) {
				continue
			}
			found++
			if len(f) != 3 {
				t.Errorf("the planar %v over %d has not the degree 2", f, q)
			}
		}
		count, ok := impl.CountPlanar(q)
		wantNumber(t, fmt.Sprint("CountPlanar ", q), count, ok, searched)
		wantNumber(t, fmt.Sprint("planar ones over ", q), found, ok, searched)
		wantNumber(t, fmt.Sprint("CountPlanar ", q), count, ok, q*q*(q-1))
	}
}

// moves has all u, v, w and z where these are not too many, and otherwise those with each element in each place.
func moves(q int) [][4]int {
	var all [][4]int
	mix := mixer(q)
	for u := 1; u < q; u++ {
		for v := range q {
			if q > 4 {
				all = append(all, [4]int{u, v, 1 + mix.below(q-1), mix.below(q)}, [4]int{1 + mix.below(q-1), mix.below(q), u, v})
				continue
			}
			for w := 1; w < q; w++ {
				for z := range q {
					all = append(all, [4]int{u, v, w, z})
				}
			}
		}
	}
	return all
}

func TestMovedMapsHaveTheirValuesAndTheSameSpread(t *testing.T) {
	list := must[[]int](t)
	for _, q := range sizes {
		m := modelPolysOfSize(q)
		polys := allButMost(differedPolys(t, q))
		for i, move := range moves(q) {
			u, v, w, z := move[0], move[1], move[2], move[3]
			for _, f := range [][]int{polys[i%len(polys)], polys[(7*i+3)%len(polys)]} {
				of := fmt.Sprint("MoveMap ", q, f, move)
				moved, ok := impl.MoveMap(q, f, u, v, w, z)
				wantPoly(t, of, q, moved, ok, m.movedTable(m.table(f), u, v, w, z))
				spread, ok := impl.SpreadOfCounts(q, moved)
				wantList(t, "SpreadOfCounts of "+of, spread, ok, list(impl.SpreadOfCounts(q, f))...)
			}
		}
		for _, f := range polys {
			same, ok := impl.MoveMap(q, f, 1, 0, 1, 0)
			wantList(t, fmt.Sprint("MoveMap without a change ", q, f), same, ok, f...)
		}
	}
}

func TestMovedMapsOfBestPolysAreBest(t *testing.T) {
	list := must[[]int](t)
	for _, q := range sizes {
		mix := mixer(q)
		for _, f := range bestPolys(q) {
			for range 5 {
				wantBest(t, q, list(impl.MoveMap(q, f, 1+mix.below(q-1), mix.below(q), 1+mix.below(q-1), mix.below(q))), true)
			}
		}
	}
}

func TestSumPowersHaveTheirValuesAndGreatestCounts(t *testing.T) {
	for _, q := range sizes {
		m := modelPolysOfSize(q)
		for i := range modelOf(q).places + 1 {
			of, table := fmt.Sprint(q, i), m.table(sumPowerTerms(q, i))
			f, ok := impl.SumPower(q, i)
			wantPoly(t, "SumPower "+of, q, f, ok, table)
			wantList(t, "SumPower "+of, f, ok, m.reduced(sumPowerTerms(q, i))...)
			want := slices.Max(m.allDifferenceCounts(table))
			count, ok := impl.SumPowerCount(q, i)
			wantNumber(t, "SumPowerCount "+of, count, ok, want)
			greatest, ok := impl.GreatestCount(q, f)
			wantNumber(t, "GreatestCount of SumPower "+of, greatest, ok, want)
		}
	}
}

func TestWrittenSumPowers(t *testing.T) {
	written := map[int][][2]int{
		2: {{1, 2}, {1, 2}}, 3: {{2, 1}, {2, 1}}, 4: {{2, 4}, {3, 2}, {2, 4}}, 5: {{2, 1}, {2, 1}}, 7: {{2, 1}, {2, 1}}, 8: {{2, 8}, {3, 2}, {5, 2}, {2, 8}},
		9: {{2, 1}, {4, 3}, {2, 1}}, 11: {{2, 1}, {2, 1}}, 13: {{2, 1}, {2, 1}}, 16: {{2, 16}, {3, 2}, {5, 4}, {9, 2}, {2, 16}},
	}
	for _, q := range sizes {
		for i, row := range written[q] {
			f, ok := impl.SumPower(q, i)
			wantList(t, fmt.Sprint("SumPower ", q, i), f, ok, powerTerms(row[0])...)
			count, ok := impl.SumPowerCount(q, i)
			wantNumber(t, fmt.Sprint("SumPowerCount ", q, i), count, ok, row[1])
		}
		if len(written[q]) != modelOf(q).places+1 {
			t.Errorf("%d powers over %d are written", len(written[q]), q)
		}
	}
}

// TestSecondDifferencesDoNotDependOnTheOrder has each pair of elements in both orders.
func TestSecondDifferencesDoNotDependOnTheOrder(t *testing.T) {
	list := must[[]int](t)
	for _, q := range sizes {
		m := modelPolysOfSize(q)
		polys := allButMost(differedPolys(t, q))
		for i := 0; i < len(polys); i += 1 + q/5 {
			f := polys[i]
			table := m.table(f)
			for a := 1; a < q; a++ {
				first := list(impl.DifferencePoly(q, f, a))
				for b := 1; b <= a; b++ {
					of := fmt.Sprint("SecondDifference ", q, f, a, b)
					second, ok := impl.SecondDifference(q, f, a, b)
					wantPoly(t, of, q, second, ok, m.difference(m.difference(table, a), b))
					wantList(t, of, second, ok, list(impl.DifferencePoly(q, first, b))...)
					wantList(t, of, second, ok, list(impl.SecondDifference(q, f, b, a))...)
				}
			}
		}
	}
}

func TestExamplesOfDifferences(t *testing.T) {
	square, cube := []int{0, 0, 1}, []int{0, 0, 0, 1}
	for a := 1; a < 5; a++ {
		difference, ok := impl.DifferencePoly(5, square, a)
		wantList(t, fmt.Sprint("DifferencePoly ", a), difference, ok, a*a%5, 2*a%5)
	}
	wantBest(t, 5, square, true)
	wantBest(t, 8, cube, true)
	count, ok := impl.SumPowerCount(8, 1)
	wantNumber(t, "SumPowerCount", count, ok, 2)
	f, ok := impl.SumPower(9, 1)
	wantList(t, "SumPower", f, ok, 0, 0, 0, 0, 1)
	count, ok = impl.SumPowerCount(9, 1)
	wantNumber(t, "SumPowerCount", count, ok, 3)
	greatest, ok := impl.GreatestCount(9, f)
	wantNumber(t, "GreatestCount", greatest, ok, 3)
}

// writtenDifferences was worked out by hand: the difference by 1 with its counts, the spread and the first repeated value.
var writtenDifferences = []struct {
	q                                       int
	f, difference, counts, spread, repeated []int
}{
	{2, nil, nil, []int{2, 0}, []int{1, 0, 1}, nil},
	{2, []int{1, 1}, []int{1}, []int{0, 2}, []int{1, 0, 1}, nil},
	{3, []int{0, 1}, []int{1}, []int{0, 3, 0}, []int{4, 0, 0, 2}, []int{1, 0, 1}},
	{3, []int{2, 0, 1}, []int{1, 2}, []int{1, 1, 1}, []int{0, 6, 0, 0}, nil},
	{4, []int{0, 0, 1}, []int{1}, []int{0, 4, 0, 0}, []int{9, 0, 0, 0, 3}, []int{1, 0, 2}},
	{4, []int{0, 0, 0, 1}, []int{1, 1, 1}, []int{2, 2, 0, 0}, []int{6, 0, 6, 0, 0}, nil},
	{5, []int{0, 0, 0, 1}, []int{1, 3, 3}, []int{0, 2, 2, 0, 1}, []int{8, 4, 8, 0, 0, 0}, []int{1, 0, 4}},
	{5, []int{3, 1, 2}, []int{3, 4}, []int{1, 1, 1, 1, 1}, []int{0, 20, 0, 0, 0, 0}, nil},
	{7, []int{0, 0, 0, 1}, []int{1, 3, 3}, []int{2, 2, 1, 0, 0, 2, 0}, []int{18, 6, 18, 0, 0, 0, 0, 0}, []int{1, 0, 6}},
	{8, []int{0, 0, 0, 1}, []int{1, 1, 1}, []int{0, 2, 0, 2, 0, 2, 0, 2}, []int{28, 0, 28, 0, 0, 0, 0, 0, 0}, nil},
	{9, []int{0, 0, 0, 0, 1}, []int{1, 1, 0, 1}, []int{3, 3, 3, 0, 0, 0, 0, 0, 0}, []int{48, 0, 0, 24, 0, 0, 0, 0, 0, 0}, []int{1, 0, 3}},
	{16, []int{0, 0, 0, 0, 0, 1}, []int{1, 1, 0, 0, 1}, []int{4, 4, 0, 0, 0, 0, 4, 4, 0, 0, 0, 0, 0, 0, 0, 0}, []int{180, 0, 0, 0, 60, 0, 0, 0, 0, 0, 0, 0, 0, 0, 0, 0, 0}, []int{1, 0, 6}},
}

func TestWrittenDifferences(t *testing.T) {
	for _, row := range writtenDifferences {
		of := fmt.Sprint(row.q, row.f)
		difference, ok := impl.DifferencePoly(row.q, row.f, 1)
		wantList(t, "DifferencePoly "+of, difference, ok, row.difference...)
		counts, ok := impl.DifferenceCounts(row.q, row.f, 1)
		wantList(t, "DifferenceCounts "+of, counts, ok, row.counts...)
		spread, ok := impl.SpreadOfCounts(row.q, row.f)
		wantList(t, "SpreadOfCounts "+of, spread, ok, row.spread...)
		wantBest(t, row.q, row.f, row.repeated == nil)
		repeated, ok := impl.FirstRepeated(row.q, row.f)
		wantList(t, "FirstRepeated "+of, repeated, ok == (row.repeated != nil), row.repeated...)
	}
}

func TestWrittenMovesAndSecondDifferences(t *testing.T) {
	for _, row := range []struct {
		q          int
		f          []int
		u, v, w, z int
		want       []int
	}{
		{2, []int{0, 1}, 1, 1, 1, 1, []int{1}}, {3, nil, 2, 1, 2, 0, nil}, {3, nil, 2, 1, 2, 2, []int{0, 2}}, {5, []int{0, 0, 1}, 2, 1, 3, 4, []int{3, 1, 2}},
		{5, []int{0, 1}, 1, 0, 1, 4, nil}, {4, []int{0, 0, 0, 1}, 2, 0, 1, 1, []int{0, 1, 0, 1}}, {4, []int{0, 0, 0, 1}, 1, 0, 3, 0, []int{0, 0, 0, 3}}, {7, []int{4}, 3, 5, 2, 6, []int{1, 6}},
	} {
		moved, ok := impl.MoveMap(row.q, row.f, row.u, row.v, row.w, row.z)
		wantList(t, fmt.Sprint("MoveMap ", row), moved, ok, row.want...)
	}
	for _, row := range []struct {
		q    int
		f    []int
		a, b int
		want []int
	}{
		{2, []int{0, 1}, 1, 1, nil}, {3, []int{0, 0, 1}, 1, 2, []int{1}}, {4, []int{0, 0, 0, 1}, 1, 2, []int{1}}, {5, []int{0, 0, 1}, 2, 4, []int{1}}, {7, []int{0, 0, 0, 1}, 1, 1, []int{6, 6}},
		{8, []int{0, 0, 0, 1}, 5, 5, nil}, {5, []int{1, 2}, 1, 1, nil}, {5, nil, 3, 4, nil},
	} {
		second, ok := impl.SecondDifference(row.q, row.f, row.a, row.b)
		wantList(t, fmt.Sprint("SecondDifference ", row), second, ok, row.want...)
	}
}
