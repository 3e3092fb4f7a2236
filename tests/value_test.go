package tests

import (
	"fmt"
	"slices"
	"testing"

	"loop.example/g01163/impl"
)

// valuedPolys also has each way in which the values may share all places, constants among them.
func valuedPolys(t *testing.T, q int) [][]int {
	t.Helper()
	return slices.Concat(mixedPolys(t, q), polysOf(t, q, tablesOfAllShares(q)))
}

func TestValuesAndPlacesAreThoseOfTheTable(t *testing.T) {
	for _, q := range sizes {
		m := modelPolysOfSize(q)
		for _, f := range valuedPolys(t, q) {
			table, of := m.table(f), fmt.Sprint(q, f)
			values, ok := impl.ValuesOf(q, f)
			wantList(t, "ValuesOf "+of, values, ok, differentIn(table)...)
			count, ok := impl.CountValues(q, f)
			wantNumber(t, "CountValues "+of, count, ok, len(differentIn(table)))
			counts, ok := impl.PlaceCounts(q, f)
			wantList(t, "PlaceCounts "+of, counts, ok, placeCountsIn(table)...)
			pairs, ok := impl.PairsAlike(q, f)
			wantNumber(t, "PairsAlike "+of, pairs, ok, pairsAlikeIn(table))
			for y := range q {
				places, ok := impl.PlacesOf(q, f, y)
				wantList(t, fmt.Sprint("PlacesOf ", of, y), places, ok, placesIn(table, y)...)
			}
		}
	}
}

func TestPlacesOfAllValuesAreAllElementsOnce(t *testing.T) {
	list, number := must[[]int](t), must[int](t)
	for _, q := range sizes {
		for _, f := range valuedPolys(t, q) {
			var all, values, counts []int
			pairs := 0
			for y := range q {
				places := list(impl.PlacesOf(q, f, y))
				if len(places) > 0 {
					values = append(values, y)
				}
				all = append(all, places...)
				counts = append(counts, len(places))
				pairs += len(places) * (len(places) - 1) / 2
			}
			of := fmt.Sprint(q, f)
			wantList(t, "all places "+of, slices.Sorted(slices.Values(all)), true, identityTable(q)...)
			wantList(t, "those with places "+of, values, true, list(impl.ValuesOf(q, f))...)
			wantList(t, "how many places "+of, counts, true, list(impl.PlaceCounts(q, f))...)
			wantNumber(t, "pairs alike "+of, pairs, true, number(impl.PairsAlike(q, f)))
			wantNumber(t, "values "+of, len(values), true, number(impl.CountValues(q, f)))
		}
	}
}

func TestCountsOfValuesKeepTheirBounds(t *testing.T) {
	number, yes := must[int](t), must[bool](t)
	for _, q := range sizes {
		metLeast, metMost := 0, 0
		for _, f := range valuedPolys(t, q) {
			degree := number(impl.DegreeOf(q, f))
			count := number(impl.CountValues(q, f))
			if degree < 1 {
				wantNumber(t, fmt.Sprint("values of a constant ", q, f), count, true, 1)
				continue
			}
			if count*degree < q || count < number(impl.LeastValues(q, degree)) {
				t.Errorf("%v over %d has %d values", f, q, count)
			}
			if count == number(impl.LeastValues(q, degree)) {
				metLeast++
			}
			wantYes(t, fmt.Sprint("DoesPermute ", q, f), yes(impl.DoesPermute(q, f)), true, count == q)
			if count == q {
				continue
			}
			most := number(impl.MostValues(q, degree))
			if q*degree-(q-1) < degree*count || count > most {
				t.Errorf("%v over %d has %d values, and does not permute", f, q, count)
			}
			if count == most {
				metMost++
			}
		}
		if metLeast == 0 || metMost == 0 && q > 2 {
			t.Errorf("over %d the bounds are met %d and %d times", q, metLeast, metMost)
		}
	}
}

// momentPowers has the least ones, those around q - 1 and its multiples, and the greatest ones.
func momentPowers(q int) []int {
	return []int{0, 1, 2, 3, q - 2, q - 1, q, 2*q - 2, 3*q - 3, 100, 999, 1000}
}

func TestMomentsAreSumsOfPowersOfAllValues(t *testing.T) {
	for _, q := range sizes {
		m := modelPolysOfSize(q)
		powers := m.powersOfAll(1000)
		for _, f := range valuedPolys(t, q) {
			table := m.table(f)
			for _, k := range momentPowers(q) {
				moment, ok := impl.ValueMoment(q, f, k)
				wantNumber(t, fmt.Sprint("ValueMoment ", q, f, k), moment, ok, m.momentOf(table, powers[k]))
			}
			moment, ok := impl.ValueMoment(q, f, 0)
			wantNumber(t, fmt.Sprint("ValueMoment ", q, f, 0), moment, ok, 0)
		}
	}
}

func TestMomentsOfAllPowers(t *testing.T) {
	number := must[int](t)
	for _, q := range sizes {
		m := modelPolysOfSize(q)
		powers := m.powersOfAll(1000)
		for _, f := range [][]int{nil, {q - 1}, {0, 1}, {1, 1}, append(make([]int, q-1), 1), slices.Repeat([]int{1}, q)} {
			table := m.table(f)
			for k := range 1001 {
				moment, ok := impl.ValueMoment(q, f, k)
				wantNumber(t, fmt.Sprint("ValueMoment ", q, f, k), moment, ok, m.momentOf(table, powers[k]))
				if k <= 100 {
					wantNumber(t, fmt.Sprint("PowerSumOf ", q, f, k), number(impl.PowerSumOf(q, f, k)), true, moment)
				}
			}
		}
	}
}

func TestFirstMomentsAreTheLeastOnes(t *testing.T) {
	number := must[int](t)
	for _, q := range sizes {
		m := modelPolysOfSize(q)
		powers := m.powersOfAll(1000)
		met := map[int]int{}
		for _, f := range valuedPolys(t, q) {
			want, exists := m.firstMomentOf(m.table(f), powers)
			first, ok := impl.FirstMoment(q, f)
			if first != want || ok != exists {
				t.Errorf("FirstMoment(%d, %v) = %d, %v, want %d, %v", q, f, first, ok, want, exists)
			}
			met[first]++
			if count := number(impl.CountValues(q, f)); ok && count < first+1 {
				t.Errorf("FirstMoment(%d, %v) = %d for %d values", q, f, first, count)
			}
		}
		if met[0] == 0 || met[1] == 0 || met[q-1] == 0 {
			t.Errorf("over %d the first moments are %v", q, met)
		}
	}
}

func TestPolysWithoutFirstMoment(t *testing.T) {
	for _, q := range sizes {
		for a := range q {
			first, ok := impl.FirstMoment(q, withoutZeros([]int{a}))
			failsNumber(t, "FirstMoment of a constant", first, ok, q, a)
		}
		for y := range q {
			first, ok := impl.FirstMoment(q, withoutZeros([]int{y, 1}))
			wantNumber(t, fmt.Sprint("FirstMoment of x and ", y, " over ", q), first, ok, q-1)
		}
	}
	// All values of these have as many places as the prime, or twice as many.
	for _, row := range []struct {
		q int
		f []int
	}{{4, []int{0, 1, 1}}, {8, []int{0, 1, 1}}, {8, []int{0, 1, 1, 0, 1}}, {9, []int{0, 1, 0, 1}}, {16, []int{0, 1, 1}}, {16, []int{0, 1, 0, 0, 1}}} {
		first, ok := impl.FirstMoment(row.q, row.f)
		failsNumber(t, "FirstMoment", first, ok, append([]int{row.q}, row.f...)...)
	}
}

func TestValuesOfSetsAreThoseAtTheirElements(t *testing.T) {
	list, number := must[[]int](t), must[int](t)
	for _, q := range sizes {
		m := modelPolysOfSize(q)
		for _, f := range slices.Concat(somePolys(q, 0), allButMost(valuedPolys(t, q))) {
			table, of := m.table(f), fmt.Sprint("ValuesOfSet ", q, f)
			for _, set := range manySets(q) {
				var values []int
				for _, x := range set {
					values = append(values, table[x])
				}
				got, ok := impl.ValuesOfSet(q, f, set)
				wantList(t, fmt.Sprint(of, set), got, ok, differentIn(values)...)
			}
			all, ok := impl.ValuesOfSet(q, f, identityTable(q))
			wantList(t, of+" of all elements", all, ok, list(impl.ValuesOf(q, f))...)
			for x := range q {
				y := number(impl.ValueAt(q, f, x))
				one, ok := impl.ValuesOfSet(q, f, []int{x})
				wantList(t, fmt.Sprint(of, x), one, ok, y)
				alike, ok := impl.ValuesOfSet(q, f, list(impl.PlacesOf(q, f, y)))
				wantList(t, fmt.Sprint(of, " of the places of ", y), alike, ok, y)
			}
		}
	}
}

func TestValuesOfNoElementsAreNone(t *testing.T) {
	for _, q := range sizes {
		for _, f := range somePolys(q, 1) {
			for _, set := range [][]int{nil, {}} {
				values, ok := impl.ValuesOfSet(q, f, set)
				wantList(t, fmt.Sprint("ValuesOfSet ", q, f), values, ok)
			}
		}
	}
}

func TestWhichPolysAreTwoToOne(t *testing.T) {
	for _, q := range sizes {
		m := modelPolysOfSize(q)
		met := map[[2]bool]int{}
		for _, f := range valuedPolys(t, q) {
			table := m.table(f)
			want := isTwoToOne(table)
			met[[2]bool{want, hasLoneValue(table)}]++
			is, ok := impl.IsTwoToOne(q, f)
			wantAnswer(t, "IsTwoToOne", q, f, is, ok, want)
		}
		// All q places are those of pairs and of at most one value more: there is one just for odd q.
		odd := q%2 == 1
		if met[[2]bool{true, odd}] == 0 || met[[2]bool{true, !odd}] != 0 || met[[2]bool{false, true}] == 0 || met[[2]bool{false, false}] == 0 && q > 2 {
			t.Errorf("the polynomials over %d are of these kinds: %v", q, met)
		}
	}
}

func TestSquaresAreTwoToOne(t *testing.T) {
	list := must[[]int](t)
	for _, q := range sizes {
		terms := []int{0, 0, 1}
		if q%2 == 0 {
			// Over even fields the squares are all elements, but x^2 + x has the same value at x and at x + 1.
			terms = []int{0, 1, 1}
		}
		f := list(impl.ReducePoly(q, terms))
		is, ok := impl.IsTwoToOne(q, f)
		wantAnswer(t, "IsTwoToOne", q, f, is, ok, true)
		is, ok = impl.IsTwoToOne(q, []int{0, 1})
		wantAnswer(t, "IsTwoToOne", q, []int{0, 1}, is, ok, false)
		is, ok = impl.IsTwoToOne(q, nil)
		wantAnswer(t, "IsTwoToOne", q, nil, is, ok, q == 2)
	}
}

func TestPolysWithValuesHaveTheirTables(t *testing.T) {
	list := must[[]int](t)
	for _, q := range sizes {
		for _, values := range manySets(q) {
			if len(values) == 0 {
				continue
			}
			table := slices.Repeat(values[len(values)-1:], q)
			copy(table, values)
			f, ok := impl.WithValues(q, values)
			wantPoly(t, fmt.Sprint("WithValues ", values), q, f, ok, table)
			wantList(t, fmt.Sprint("values of WithValues ", q, values), list(impl.ValuesOf(q, f)), true, values...)
		}
	}
}

func TestExamplesOfValues(t *testing.T) {
	f := []int{0, 0, 1}
	values, ok := impl.ValuesOf(5, f)
	wantList(t, "ValuesOf", values, ok, 0, 1, 4)
	places, ok := impl.PlacesOf(5, f, 1)
	wantList(t, "PlacesOf", places, ok, 1, 4)
	is, ok := impl.IsTwoToOne(5, f)
	wantAnswer(t, "IsTwoToOne", 5, f, is, ok, true)
	first, ok := impl.FirstMoment(5, f)
	wantNumber(t, "FirstMoment", first, ok, 2)
	moment, ok := impl.ValueMoment(5, f, 1)
	wantNumber(t, "ValueMoment", moment, ok, 0)
	moment, ok = impl.ValueMoment(5, f, 2)
	wantNumber(t, "ValueMoment", moment, ok, 4)
	count, ok := impl.CountValues(5, f)
	wantNumber(t, "CountValues", count, ok, 3)
}

// TestWrittenValues has results that were worked out by hand.
func TestWrittenValues(t *testing.T) {
	values, ok := impl.ValuesOf(5, nil)
	wantList(t, "ValuesOf 0", values, ok, 0)
	places, ok := impl.PlacesOf(5, nil, 0)
	wantList(t, "PlacesOf 0", places, ok, 0, 1, 2, 3, 4)
	places, ok = impl.PlacesOf(5, []int{0, 0, 1}, 2)
	wantList(t, "PlacesOf no value", places, ok)
	counts, ok := impl.PlaceCounts(5, []int{0, 0, 1})
	wantList(t, "PlaceCounts", counts, ok, 1, 2, 0, 0, 2)
	counts, ok = impl.PlaceCounts(4, []int{0, 1, 1})
	wantList(t, "PlaceCounts", counts, ok, 2, 2, 0, 0)
	counts, ok = impl.PlaceCounts(7, []int{0, 0, 0, 1})
	wantList(t, "PlaceCounts", counts, ok, 1, 3, 0, 0, 0, 0, 3)
	pairs, ok := impl.PairsAlike(7, []int{0, 0, 0, 1})
	wantNumber(t, "PairsAlike", pairs, ok, 6)
	pairs, ok = impl.PairsAlike(16, []int{7})
	wantNumber(t, "PairsAlike", pairs, ok, 120)
	pairs, ok = impl.PairsAlike(16, []int{7, 9})
	wantNumber(t, "PairsAlike", pairs, ok, 0)
	moment, ok := impl.ValueMoment(7, []int{0, 0, 0, 1}, 2)
	wantNumber(t, "ValueMoment", moment, ok, 6)
	first, ok := impl.FirstMoment(7, []int{0, 0, 0, 1})
	wantNumber(t, "FirstMoment", first, ok, 2)
	first, ok = impl.FirstMoment(2, []int{1, 1})
	wantNumber(t, "FirstMoment", first, ok, 1)
	values, ok = impl.ValuesOfSet(7, []int{0, 0, 0, 1}, []int{1, 2, 4, 5})
	wantList(t, "ValuesOfSet", values, ok, 1, 6)
	f, ok := impl.WithValues(3, []int{1})
	wantList(t, "WithValues", f, ok, 1)
	f, ok = impl.WithValues(3, []int{0, 1})
	wantList(t, "WithValues", f, ok, 0, 0, 1)
	f, ok = impl.WithValues(3, []int{0, 1, 2})
	wantList(t, "WithValues", f, ok, 0, 1)
	f, ok = impl.WithValues(5, []int{4})
	wantList(t, "WithValues", f, ok, 4)
	f, ok = impl.WithValues(5, []int{2, 3})
	wantList(t, "WithValues", f, ok, 2, 0, 0, 0, 1)
}
