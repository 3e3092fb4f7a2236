package tests

import (
	"fmt"
	"slices"
	"testing"

	"loop.example/g01163/impl"
)

// writtenCounts are those of the document.
var writtenCounts = map[int]int{2: 0, 3: 1, 4: 2, 5: 3, 7: 19, 8: 48}

func completePolys(t *testing.T, q int) [][]int {
	t.Helper()
	return polysOf(t, q, completeTables(q))
}

// wantComplete is for a polynomial that a call made of a complete one.
func wantComplete(t *testing.T, name string, q int, f []int) {
	t.Helper()
	is, ok := impl.IsComplete(q, f)
	wantAnswer(t, name+" IsComplete", q, f, is, ok, true)
}

func TestMaxAllComplete(t *testing.T) {
	if impl.MaxAllComplete != 8 {
		t.Error("MaxAllComplete", impl.MaxAllComplete)
	}
}

func TestCompletePolysPermuteWithAndWithoutX(t *testing.T) {
	for _, q := range sizes {
		m, met := modelPolysOfSize(q), map[[2]bool]int{}
		for _, f := range slices.Concat(manyPolys(q), completePolys(t, q), polysOf(t, q, nearlyComplete(q))) {
			table := m.table(f)
			sums := m.plusIdentity(table)
			plus, ok := impl.PlusX(q, f)
			wantPoly(t, fmt.Sprint("PlusX ", f), q, plus, ok, sums)
			is, ok := impl.IsComplete(q, f)
			wantAnswer(t, "IsComplete", q, f, is, ok, m.isComplete(table))
			met[[2]bool{isPermutation(table), isPermutation(sums)}]++
		}
		// Over the field of 2, x is added to one of x and x + 1 alone.
		if met[[2]bool{true, false}] == 0 || met[[2]bool{false, true}] == 0 || met[[2]bool{true, true}] == 0 && q > 2 || met[[2]bool{false, false}] == 0 && q > 2 {
			t.Errorf("the polynomials over %d are of these kinds: %v", q, met)
		}
	}
}

// TestCompletePolysAreToldByTheCallsOfEarlierChapters asks the program alone.
func TestCompletePolysAreToldByTheCallsOfEarlierChapters(t *testing.T) {
	list, yes := must[[]int](t), must[bool](t)
	for _, q := range sizes {
		for _, f := range slices.Concat(allButMost(manyPolys(q)), completePolys(t, q), polysOf(t, q, nearlyComplete(q))) {
			sum := list(impl.PlusPoly(q, f, []int{0, 1}))
			plus, ok := impl.PlusX(q, f)
			wantList(t, fmt.Sprint("PlusX ", q, f), plus, ok, sum...)
			is, ok := impl.IsComplete(q, f)
			wantAnswer(t, "IsComplete", q, f, is, ok, yes(impl.DoesPermute(q, f)) && yes(impl.DoesPermute(q, sum)))
		}
	}
}

func TestCompleteLinearPolysAreAllButTwo(t *testing.T) {
	for _, q := range sizes {
		m := modelPolysOfSize(q)
		var want []int
		for a := range q {
			f := withoutZeros([]int{0, a})
			is, ok := impl.IsComplete(q, f)
			wantAnswer(t, "IsComplete", q, f, is, ok, a != 0 && a != m.less(0, 1))
			if m.isComplete(m.table(f)) {
				want = append(want, a)
			}
		}
		got, ok := impl.CompleteLinear(q)
		wantList(t, fmt.Sprint("CompleteLinear ", q), got, ok, want...)
		wantNumber(t, fmt.Sprint("CompleteLinear ", q), len(got), ok, len(want))
	}
}

func TestFixedCompletePolysAreThoseOfASearch(t *testing.T) {
	for _, q := range searchedSizes {
		tables := modelPolysOfSize(q).fixedComplete()
		count, ok := impl.CountComplete(q)
		wantNumber(t, fmt.Sprint("CountComplete ", q), count, ok, len(tables))
		wantNumber(t, fmt.Sprint("CountComplete ", q), count, ok, writtenCounts[q])
		for rank, want := range tables {
			table, ok := impl.CompleteWith(q, rank)
			wantList(t, fmt.Sprint("CompleteWith ", q, rank), table, ok, want...)
			back, ok := impl.RankComplete(q, want)
			wantNumber(t, fmt.Sprint("RankComplete ", q, want), back, ok, rank)
		}
		for _, rank := range []int{-1, -2, -len(tables), len(tables), len(tables) + 1, 2 * len(tables)} {
			if rank < 0 || rank >= len(tables) {
				table, ok := impl.CompleteWith(q, rank)
				failsList(t, "CompleteWith", table, ok, q, rank)
			}
		}
	}
}

// TestRanksAreThoseOfFixedCompleteTablesAlone asks for all fixed tables that permute, and for others.
func TestRanksAreThoseOfFixedCompleteTablesAlone(t *testing.T) {
	for _, q := range searchedSizes {
		complete := modelPolysOfSize(q).fixedComplete()
		others := slices.Concat(completeTables(q), nearlyComplete(q), manyTables(q))
		for _, table := range slices.Concat(fixedPermutations(q), others) {
			want := slices.IndexFunc(complete, func(other []int) bool { return slices.Equal(other, table) })
			rank, ok := impl.RankComplete(q, table)
			if ok != (want >= 0) || rank != max(want, 0) {
				t.Errorf("RankComplete(%d, %v) = %d, %v, want %d", q, table, rank, ok, want)
			}
		}
	}
}

// TestCompletePolysAmongAllAreCounted asks the program alone. With each element added, a fixed one makes q others.
func TestCompletePolysAmongAllAreCounted(t *testing.T) {
	number, yes := must[int](t), must[bool](t)
	polys := map[int][][]int{7: polysOf(t, 7, allPermutations(7)), 8: polysOf(t, 8, fixedPermutations(8))}
	for _, q := range searchedSizes {
		all, fixed := 0, 0
		if q <= 5 {
			polys[q] = manyPolys(q)
		}
		for _, f := range polys[q] {
			if !yes(impl.IsComplete(q, f)) {
				continue
			}
			all++
			if number(impl.ValueAt(q, f, 0)) == 0 {
				fixed++
			}
		}
		count, ok := impl.CountComplete(q)
		wantNumber(t, fmt.Sprint("CountComplete ", q), count, ok, fixed)
		if q < 8 {
			wantNumber(t, fmt.Sprint("CountComplete, elements added ", q), count*q, ok, all)
		}
	}
}

func TestCompletePolysAreUndone(t *testing.T) {
	list := must[[]int](t)
	for _, q := range sizes {
		m := modelPolysOfSize(q)
		for _, table := range completeTables(q) {
			f := list(impl.PolyOf(q, table))
			of := fmt.Sprint("InverseComplete ", q, f)
			back, ok := impl.InverseComplete(q, f)
			wantPoly(t, of, q, back, ok, inverseTable(table))
			wantComplete(t, of, q, back)
			if !m.isComplete(m.table(back)) {
				t.Errorf("%s: %v is not complete", of, back)
			}
			again, ok := impl.InverseComplete(q, back)
			wantList(t, of, again, ok, f...)
			wantList(t, of, back, ok, list(impl.InversePoly(q, f))...)
			joined, ok := impl.ComposePoly(q, back, f)
			wantList(t, of, joined, ok, 0, 1)
		}
	}
}

func TestCompletePolysAreMoved(t *testing.T) {
	list := must[[]int](t)
	for _, q := range sizes {
		tables := completeTables(q)
		if len(tables) == 0 {
			continue
		}
		m := modelPolysOfSize(q)
		for _, table := range allButMost(tables) {
			f := list(impl.PolyOf(q, table))
			for a := range q {
				for b := range q {
					of := fmt.Sprint("MoveComplete ", q, f, a, b)
					moved, ok := impl.MoveComplete(q, f, a, b)
					wantPoly(t, of, q, moved, ok, m.movedBy(table, a, b))
					wantComplete(t, of, q, moved)
				}
			}
		}
	}
}

// TestMovesOfCompletePolysAreShiftsAndSums asks the program alone, and moves each polynomial back.
func TestMovesOfCompletePolysAreShiftsAndSums(t *testing.T) {
	list, number := must[[]int](t), must[int](t)
	for _, q := range sizes {
		mix := mixer(q)
		for _, f := range completePolys(t, q) {
			a, b := mix.below(q), mix.below(q)
			of := fmt.Sprint("MoveComplete ", q, f, a, b)
			moved, ok := impl.MoveComplete(q, f, a, b)
			wantList(t, of, moved, ok, list(impl.PlusPoly(q, list(impl.ShiftPoly(q, f, a)), withoutZeros([]int{b})))...)
			back, ok := impl.MoveComplete(q, moved, number(impl.LessOf(q, 0, a)), number(impl.LessOf(q, 0, b)))
			wantList(t, of+" and back", back, ok, f...)
			same, ok := impl.MoveComplete(q, f, 0, 0)
			wantList(t, of+" by nothing", same, ok, f...)
		}
	}
}

func TestNegatedInversesUndoSums(t *testing.T) {
	list := must[[]int](t)
	for _, q := range sizes {
		m := modelPolysOfSize(q)
		for _, table := range completeTables(q) {
			f := list(impl.PolyOf(q, table))
			of := fmt.Sprint("NegatedInverse ", q, f)
			negated, ok := impl.NegatedInverse(q, f)
			wantPoly(t, of, q, negated, ok, m.negatedInverse(table))
			wantComplete(t, of, q, negated)
			// At PlusX of f it is x with a minus, and with x added it is f at what undoes PlusX.
			joined, ok := impl.ComposePoly(q, negated, list(impl.PlusX(q, f)))
			wantList(t, of, joined, ok, 0, m.less(0, 1))
			joined, ok = impl.ComposePoly(q, list(impl.PlusX(q, negated)), list(impl.PlusX(q, f)))
			wantList(t, of, joined, ok, f...)
		}
	}
}

// TestThreeNegatedInversesTurnBothSigns asks the program alone: the third one is f at x with a minus, with a minus.
func TestThreeNegatedInversesTurnBothSigns(t *testing.T) {
	list, number := must[[]int](t), must[int](t)
	for _, q := range sizes {
		minus := number(impl.LessOf(q, 0, 1))
		for _, f := range completePolys(t, q) {
			third := f
			for range 3 {
				third = list(impl.NegatedInverse(q, third))
			}
			want := list(impl.ScalePoly(q, list(impl.ComposePoly(q, f, []int{0, minus})), minus))
			wantList(t, fmt.Sprint("three times NegatedInverse ", q, f), third, true, want...)
		}
	}
}

func TestSquareWaysAreCompleteAsTold(t *testing.T) {
	list, yes := must[[]int](t), must[bool](t)
	for _, q := range oddSizes() {
		m, want := modelPolysOfSize(q), 0
		squares, met := m.squares(), map[[2]bool]int{}
		for a := range q {
			for b := range q {
				of := fmt.Sprint("WaysComplete ", q, a, b)
				first := slices.Contains(squares, m.products[a][b])
				second := slices.Contains(squares, m.products[m.sums[a][1]][m.sums[b][1]])
				met[[2]bool{first, second}]++
				complete, ok := impl.WaysComplete(q, a, b)
				wantYes(t, of, complete, ok, first && second)
				wantYes(t, of, complete, ok, m.isComplete(m.squareWays(a, b)))
				wantYes(t, of, complete, ok, yes(impl.IsComplete(q, list(impl.PolyOf(q, list(impl.SquareWays(q, a, b)))))))
				if m.isComplete(m.squareWays(a, b)) {
					want++
				}
			}
		}
		if len(met) != 4 {
			t.Errorf("the conditions over %d hold as often as %v", q, met)
		}
		count, ok := impl.CountWaysComplete(q)
		wantNumber(t, fmt.Sprint("CountWaysComplete ", q), count, ok, want)
	}
}

func TestWrittenCompletePolys(t *testing.T) {
	for q, want := range map[int][]int{2: nil, 3: {1}, 4: {2, 3}, 5: {1, 2, 3}, 7: {1, 2, 3, 4, 5}, 8: {2, 3, 4, 5, 6, 7}, 9: {1, 3, 4, 5, 6, 7, 8}} {
		linear, ok := impl.CompleteLinear(q)
		wantList(t, fmt.Sprint("CompleteLinear ", q), linear, ok, want...)
	}
	for q, want := range map[int][][]int{3: {{0, 1, 2}}, 4: {{0, 2, 3, 1}, {0, 3, 1, 2}}, 5: {{0, 1, 2, 3, 4}, {0, 2, 4, 1, 3}, {0, 3, 1, 4, 2}}} {
		for rank, table := range want {
			got, ok := impl.CompleteWith(q, rank)
			wantList(t, fmt.Sprint("CompleteWith ", q, rank), got, ok, table...)
			back, ok := impl.RankComplete(q, table)
			wantNumber(t, fmt.Sprint("RankComplete ", q, table), back, ok, rank)
		}
		got, ok := impl.CompleteWith(q, len(want))
		failsList(t, "CompleteWith", got, ok, q, len(want))
	}
	table, ok := impl.CompleteWith(7, 0)
	wantList(t, "CompleteWith 7", table, ok, 0, 1, 2, 3, 4, 5, 6)
	plus, ok := impl.PlusX(2, []int{0, 1})
	wantList(t, "PlusX", plus, ok)
	plus, ok = impl.PlusX(9, []int{1, 2, 1})
	wantList(t, "PlusX", plus, ok, 1, 0, 1)
	// 2 x is undone by 3 x over the field of 5, and 3 x, that is PlusX of it, by 2 x.
	back, ok := impl.InverseComplete(5, []int{0, 2})
	wantList(t, "InverseComplete", back, ok, 0, 3)
	negated, ok := impl.NegatedInverse(5, []int{0, 2})
	wantList(t, "NegatedInverse", negated, ok, 0, 3)
	negated, ok = impl.NegatedInverse(5, []int{0, 1})
	wantList(t, "NegatedInverse", negated, ok, 0, 2)
	moved, ok := impl.MoveComplete(5, []int{0, 2}, 1, 4)
	wantList(t, "MoveComplete", moved, ok, 1, 2)
	moved, ok = impl.MoveComplete(4, []int{0, 2}, 2, 1)
	wantList(t, "MoveComplete", moved, ok, 2, 2)
	for q, want := range map[int]int{3: 1, 5: 3, 7: 7, 9: 13, 11: 21, 13: 31} {
		count, ok := impl.CountWaysComplete(q)
		wantNumber(t, fmt.Sprint("CountWaysComplete ", q), count, ok, want)
	}
	complete, ok := impl.WaysComplete(5, 2, 2)
	wantYes(t, "WaysComplete", complete, ok, true)
	complete, ok = impl.WaysComplete(5, 2, 3)
	wantYes(t, "WaysComplete", complete, ok, false)
	complete, ok = impl.WaysComplete(5, 4, 4)
	wantYes(t, "WaysComplete", complete, ok, false)
}

// TestExamplesOfCompletePolys has those of the document.
func TestExamplesOfCompletePolys(t *testing.T) {
	list, rows := must[[]int](t), must[[][]int](t)
	count, ok := impl.CountComplete(3)
	wantNumber(t, "CountComplete", count, ok, 1)
	f, ok := impl.PolyOf(3, list(impl.CompleteWith(3, 0)))
	wantList(t, "CompleteWith", f, ok, 0, 1)
	is, ok := impl.IsComplete(3, []int{0, 2})
	wantAnswer(t, "IsComplete", 3, []int{0, 2}, is, ok, false)
	does, ok := impl.DoesPermute(3, []int{0, 2})
	wantAnswer(t, "DoesPermute", 3, []int{0, 2}, does, ok, true)
	for rank := range 3 {
		f, ok := impl.PolyOf(5, list(impl.CompleteWith(5, rank)))
		wantList(t, "CompleteWith", f, ok, 0, rank+1)
	}
	orthogonal, ok := impl.AreOrthogonal(rows(impl.SquareOfMap(5, []int{0, 1})), rows(impl.SquareOfMap(5, []int{0, 4})))
	wantYes(t, "AreOrthogonal", orthogonal, ok, true)
}
