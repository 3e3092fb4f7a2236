package tests

import (
	"fmt"
	"math/big"
	"slices"
	"testing"

	"loop.example/g01163/impl"
)

func wantYes(t *testing.T, name string, got, ok, want bool) {
	t.Helper()
	if got != want || !ok {
		t.Errorf("%s = %v, %v, want %v", name, got, ok, want)
	}
}

func TestMaxExponent(t *testing.T) {
	if impl.MaxExponent != 400 {
		t.Error("MaxExponent", impl.MaxExponent)
	}
}

func TestPowersOfXHaveThePowersAsValues(t *testing.T) {
	for _, q := range sizes {
		m := modelPolysOfSize(q)
		table := slices.Repeat([]int{1}, q)
		for n := 0; n <= 400; n++ {
			f, ok := impl.PowerOfX(q, n)
			wantPoly(t, fmt.Sprint("PowerOfX ", n), q, f, ok, table)
			wantList(t, fmt.Sprint("PowerOfX ", q, n), f, ok, m.reduced(powerTerms(n))...)
			table = times(m, table, identityTable(q))
		}
	}
}

func TestPowersPermuteIfTheyShareNoDivisor(t *testing.T) {
	list, yes := must[[]int](t), must[bool](t)
	for _, q := range sizes {
		m := modelPolysOfSize(q)
		for n := 0; n <= 400; n++ {
			name := fmt.Sprint("PowerPermutes ", q, n)
			permutes, ok := impl.PowerPermutes(q, n)
			wantYes(t, name, permutes, ok, powersPermute(q, n))
			f := list(impl.PowerOfX(q, n))
			wantYes(t, name, permutes, ok, isPermutation(m.table(f)))
			wantYes(t, name, permutes, ok, yes(impl.DoesPermute(q, f)))
		}
	}
}

func TestPermutingPowersAreCounted(t *testing.T) {
	written := map[int]int{2: 1, 3: 1, 4: 2, 5: 2, 7: 2, 8: 6, 9: 4, 11: 4, 13: 4, 16: 8}
	yes := must[bool](t)
	for _, q := range sizes {
		want := 0
		for n := 1; n < q; n++ {
			if yes(impl.PowerPermutes(q, n)) {
				want++
			}
		}
		count, ok := impl.CountPermutingPowers(q)
		wantNumber(t, fmt.Sprint("CountPermutingPowers ", q), count, ok, want)
		wantNumber(t, fmt.Sprint("CountPermutingPowers ", q), count, ok, written[q])
	}
}

func TestDicksonPolysHaveTheirFormulaAndTables(t *testing.T) {
	numbers := map[int][]*big.Int{}
	for _, q := range sizes {
		m, prime := modelPolysOfSize(q), modelOf(q).prime
		for a := range q {
			tables := m.dicksonTables(a)
			for _, n := range exponents(q) {
				if numbers[n] == nil && n > 0 {
					numbers[n] = dicksonNumbers(n)
				}
				name := fmt.Sprint("DicksonOf ", q, n, a)
				f, ok := impl.DicksonOf(q, n, a)
				wantPoly(t, name, q, f, ok, tables[n])
				wantList(t, name, f, ok, m.reduced(m.dicksonTerms(prime, n, a, numbers[n]))...)
			}
		}
	}
}

func TestDicksonPolysAreToldByTheTwoBefore(t *testing.T) {
	list := must[[]int](t)
	for _, q := range sizes {
		m := modelPolysOfSize(q)
		for a := range q {
			start := 0
			for _, last := range []int{20, 400} {
				first, second := list(impl.DicksonOf(q, start, a)), list(impl.DicksonOf(q, start+1, a))
				for n := start + 2; n <= last; n++ {
					product := list(impl.TimesPoly(q, []int{0, 1}, second))
					less := list(impl.ScalePoly(q, first, m.less(0, a)))
					want := list(impl.PlusPoly(q, product, less))
					got, ok := impl.DicksonOf(q, n, a)
					wantList(t, fmt.Sprint("DicksonOf ", q, n, a), got, ok, want...)
					first, second = second, got
				}
				start = 398
			}
		}
	}
}

func TestFirstDicksonPolys(t *testing.T) {
	for _, q := range sizes {
		for a := range q {
			f, ok := impl.DicksonOf(q, 0, a)
			wantList(t, fmt.Sprint("DicksonOf ", q, 0, a), f, ok, withoutZeros([]int{modelPolysOfSize(q).sums[1][1]})...)
			f, ok = impl.DicksonOf(q, 1, a)
			wantList(t, fmt.Sprint("DicksonOf ", q, 1, a), f, ok, 0, 1)
		}
		for n := 1; n <= 400; n += 7 {
			want, _ := impl.PowerOfX(q, n)
			f, ok := impl.DicksonOf(q, n, 0)
			wantList(t, fmt.Sprint("DicksonOf ", q, n, 0), f, ok, want...)
		}
	}
}

func TestDicksonPolysPermuteIfTheyShareNoDivisor(t *testing.T) {
	for _, q := range sizes {
		m := modelPolysOfSize(q)
		for a := range q {
			for n, table := range m.dicksonTables(a) {
				name := fmt.Sprint("DicksonPermutes ", q, n, a)
				permutes, ok := impl.DicksonPermutes(q, n, a)
				wantYes(t, name, permutes, ok, dicksonsPermute(q, n, a))
				wantYes(t, name, permutes, ok, isPermutation(table))
			}
		}
	}
}

func TestDoesPermuteTellsTheSameOfDicksonPolys(t *testing.T) {
	list := must[[]int](t)
	for _, q := range sizes {
		met := map[bool]int{}
		for a := range q {
			for n := range 20 {
				want, ok := impl.DoesPermute(q, list(impl.DicksonOf(q, n, a)))
				if !ok {
					t.Errorf("D(%d) over %d for %d is no polynomial", n, q, a)
				}
				met[want]++
				got, ok := impl.DicksonPermutes(q, n, a)
				wantYes(t, fmt.Sprint("DicksonPermutes ", q, n, a), got, ok, want)
			}
		}
		if met[true] == 0 || met[false] == 0 {
			t.Errorf("the polynomials over %d are of one kind: %v", q, met)
		}
	}
}

func TestDicksonPolysHaveTheirValuesAtSums(t *testing.T) {
	for _, q := range sizes {
		m := modelPolysOfSize(q)
		for a := range q {
			tables := m.dicksonTables(a)
			for y := 1; y < q; y++ {
				other := m.products[a][m.inverse(y)]
				for _, n := range exponents(q) {
					name := fmt.Sprint("DicksonAt ", q, n, a, y)
					value, ok := impl.DicksonAt(q, n, a, y)
					wantNumber(t, name, value, ok, m.sums[m.power(y, n)][m.power(other, n)])
					wantNumber(t, name, value, ok, tables[n][m.sums[y][other]])
				}
			}
		}
	}
}

func TestValuesOfDicksonPolysAreThoseAtSums(t *testing.T) {
	list, number := must[[]int](t), must[int](t)
	for _, q := range sizes {
		m := modelPolysOfSize(q)
		for a := range q {
			for _, n := range []int{0, 1, 2, 3, q, 50} {
				f := list(impl.DicksonOf(q, n, a))
				for y := 1; y < q; y++ {
					x := m.sums[y][m.products[a][m.inverse(y)]]
					value, ok := impl.DicksonAt(q, n, a, y)
					wantNumber(t, fmt.Sprint("DicksonAt ", q, n, a, y), value, ok, number(impl.ValueAt(q, f, x)))
				}
			}
		}
	}
}

func TestJoinedDicksonPolysAreDicksonPolys(t *testing.T) {
	for _, q := range sizes {
		m := modelPolysOfSize(q)
		elements := identityTable(q)
		if q > 9 {
			elements = []int{0, 1, 2, q / 2, q - 1}
		}
		for _, a := range elements {
			tables := m.dicksonTables(a)
			for first := range 21 {
				for second := range 21 {
					f, ok := impl.JoinDickson(q, first, second, a)
					wantPoly(t, fmt.Sprint("JoinDickson ", first, second, a), q, f, ok, tables[first*second])
				}
			}
			for _, pair := range [][2]int{{0, 0}, {0, 5}, {5, 0}, {1, 7}, {7, 1}, {2, 3}, {3, 2}, {19, 20}, {20, 20}} {
				want, _ := impl.DicksonOf(q, pair[0]*pair[1], a)
				f, ok := impl.JoinDickson(q, pair[0], pair[1], a)
				wantList(t, fmt.Sprint("JoinDickson ", q, pair, a), f, ok, want...)
			}
		}
	}
}

func TestRootsOfUnityAreThoseWhosePowerIsOne(t *testing.T) {
	for _, q := range sizes {
		m := modelPolysOfSize(q)
		for _, d := range divisorsOf(q - 1) {
			roots, ok := impl.RootsOfUnity(q, d)
			wantList(t, fmt.Sprint("RootsOfUnity ", q, d), roots, ok, m.rootsOfUnity(d)...)
			if len(roots) != d {
				t.Errorf("RootsOfUnity(%d, %d) has %d", q, d, len(roots))
			}
		}
		all, ok := impl.RootsOfUnity(q, q-1)
		wantList(t, fmt.Sprint("RootsOfUnity ", q), all, ok, identityTable(q)[1:]...)
		one, ok := impl.RootsOfUnity(q, 1)
		wantList(t, fmt.Sprint("RootsOfUnity ", q), one, ok, 1)
	}
}

func TestSquareWaysHaveTheirTables(t *testing.T) {
	list := must[[]int](t)
	for _, q := range oddSizes() {
		m := modelPolysOfSize(q)
		for a := range q {
			for b := range q {
				want := m.squareWays(a, b)
				table, ok := impl.SquareWays(q, a, b)
				wantList(t, fmt.Sprint("SquareWays ", q, a, b), table, ok, want...)
				name := fmt.Sprint("SquareWaysPermute ", q, a, b)
				permute, ok := impl.SquareWaysPermute(q, a, b)
				wantYes(t, name, permute, ok, isPermutation(want))
				wantYes(t, name, permute, ok, slices.Contains(m.squares(), m.products[a][b]))
				does, ok := impl.DoesPermute(q, list(impl.PolyOf(q, table)))
				wantYes(t, name, does, ok, permute)
			}
		}
	}
}

func TestExamplesOfKinds(t *testing.T) {
	power, ok := impl.PowerOfX(7, 5)
	wantList(t, "PowerOfX", power, ok, 0, 0, 0, 0, 0, 1)
	permutes, ok := impl.PowerPermutes(7, 5)
	wantYes(t, "PowerPermutes", permutes, ok, true)
	third, ok := impl.DicksonOf(7, 3, 1)
	wantList(t, "DicksonOf", third, ok, 0, 4, 0, 1)
	text, ok := impl.PolyText(7, third)
	if text != "0,4,0,1" || !ok {
		t.Error("PolyText", text, ok)
	}
	sixth, ok := impl.DicksonOf(7, 6, 1)
	wantList(t, "DicksonOf", sixth, ok, 5, 0, 2, 0, 1, 0, 1)
	joined, ok := impl.JoinDickson(7, 2, 3, 1)
	wantList(t, "JoinDickson", joined, ok, sixth...)
	roots, ok := impl.RootsOfUnity(7, 3)
	wantList(t, "RootsOfUnity", roots, ok, 1, 2, 4)
}

// TestWrittenKinds has results that were worked out by hand.
func TestWrittenKinds(t *testing.T) {
	f, ok := impl.PowerOfX(2, 400)
	wantList(t, "PowerOfX", f, ok, 0, 1)
	f, ok = impl.PowerOfX(5, 4)
	wantList(t, "PowerOfX", f, ok, 0, 0, 0, 0, 1)
	f, ok = impl.PowerOfX(5, 5)
	wantList(t, "PowerOfX", f, ok, 0, 1)
	f, ok = impl.DicksonOf(4, 0, 3)
	wantList(t, "DicksonOf", f, ok)
	f, ok = impl.DicksonOf(9, 0, 3)
	wantList(t, "DicksonOf", f, ok, 2)
	f, ok = impl.DicksonOf(5, 2, 3)
	wantList(t, "DicksonOf", f, ok, 4, 0, 1)
	f, ok = impl.DicksonOf(4, 2, 3)
	wantList(t, "DicksonOf", f, ok, 0, 0, 1)
	f, ok = impl.DicksonOf(4, 3, 2)
	wantList(t, "DicksonOf", f, ok, 0, 2, 0, 1)
	f, ok = impl.DicksonOf(3, 3, 1)
	wantList(t, "DicksonOf", f, ok, 0, 1)
	for n, want := range map[int]bool{0: false, 1: true, 2: false, 3: false, 4: false, 5: true, 7: true, 9: false} {
		got, ok := impl.DicksonPermutes(5, n, 2)
		wantYes(t, fmt.Sprint("DicksonPermutes ", n), got, ok, want)
	}
	for n, want := range map[int]bool{0: false, 1: true, 2: false, 3: true, 4: false, 5: true, 9: true} {
		got, ok := impl.DicksonPermutes(5, n, 0)
		wantYes(t, fmt.Sprint("DicksonPermutes for 0 ", n), got, ok, want)
	}
	value, ok := impl.DicksonAt(5, 2, 3, 2)
	wantNumber(t, "DicksonAt", value, ok, 0)
	value, ok = impl.DicksonAt(5, 0, 0, 2)
	wantNumber(t, "DicksonAt", value, ok, 2)
	value, ok = impl.DicksonAt(7, 1, 0, 3)
	wantNumber(t, "DicksonAt", value, ok, 3)
	table, ok := impl.SquareWays(5, 2, 3)
	wantList(t, "SquareWays", table, ok, 0, 2, 1, 4, 3)
	table, ok = impl.SquareWays(3, 0, 2)
	wantList(t, "SquareWays", table, ok, 0, 0, 1)
	permute, ok := impl.SquareWaysPermute(5, 2, 3)
	wantYes(t, "SquareWaysPermute", permute, ok, true)
	permute, ok = impl.SquareWaysPermute(5, 2, 1)
	wantYes(t, "SquareWaysPermute", permute, ok, false)
	permute, ok = impl.SquareWaysPermute(5, 0, 1)
	wantYes(t, "SquareWaysPermute", permute, ok, false)
}
