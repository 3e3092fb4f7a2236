package tests

import (
	"fmt"
	"slices"
	"testing"

	"loop.example/g01163/impl"
)

// wantPoly also asks for a polynomial, so that a list that is not reduced is told even where its values are right.
func wantPoly(t *testing.T, name string, q int, got []int, ok bool, table []int) {
	t.Helper()
	if !ok {
		t.Errorf("%s over %d failed", name, q)
		return
	}
	if is, ok := impl.IsPoly(q, got); !is || !ok {
		t.Errorf("%s over %d: %v is no polynomial", name, q, got)
		return
	}
	if values := modelPolysOfSize(q).table(got); !slices.Equal(values, table) {
		t.Errorf("%s over %d: %v has the values %v, want %v", name, q, got, values, table)
	}
}

var modelsOfSizes = map[int]modelPolys{}

// modelPolysOfSize keeps the models: their products are made from long divisions.
func modelPolysOfSize(q int) modelPolys {
	if _, ok := modelsOfSizes[q]; !ok {
		modelsOfSizes[q] = modelPolysOf(q)
	}
	return modelsOfSizes[q]
}

func TestMaxTerms(t *testing.T) {
	if impl.MaxTerms != 40 {
		t.Error("MaxTerms", impl.MaxTerms)
	}
}

func TestPolysAreToldByTheirTables(t *testing.T) {
	for _, q := range sizes {
		m := modelPolysOfSize(q)
		for _, f := range manyPolys(q) {
			want := m.table(f)
			table, ok := impl.TableOf(q, f)
			wantList(t, fmt.Sprint("TableOf ", q, f), table, ok, want...)
			if is, ok := impl.IsTable(q, table); !is || !ok {
				t.Errorf("TableOf(%d, %v) = %v is no table", q, f, table)
			}
			back, ok := impl.PolyOf(q, table)
			wantList(t, fmt.Sprint("PolyOf ", q, table), back, ok, f...)
			for x, y := range want {
				value, ok := impl.ValueAt(q, f, x)
				wantNumber(t, fmt.Sprint("ValueAt ", q, f, x), value, ok, y)
			}
			degree, ok := impl.DegreeOf(q, f)
			wantNumber(t, fmt.Sprint("DegreeOf ", q, f), degree, ok, len(f)-1)
		}
	}
}

func TestTablesAreToldByTheirPolys(t *testing.T) {
	for _, q := range sizes {
		for _, table := range manyTables(q) {
			f, ok := impl.PolyOf(q, table)
			wantPoly(t, "PolyOf", q, f, ok, table)
			back, ok := impl.TableOf(q, f)
			wantList(t, fmt.Sprint("TableOf ", q, f), back, ok, table...)
		}
	}
}

func TestWhichListsArePolysAndTables(t *testing.T) {
	for _, q := range sizes {
		for _, f := range manyPolys(q) {
			is, ok := impl.IsPoly(q, f)
			wantAnswer(t, "IsPoly", q, f, is, ok, true)
		}
		for _, f := range noPolys(q) {
			is, ok := impl.IsPoly(q, f)
			wantAnswer(t, "IsPoly", q, f, is, ok, false)
		}
		for _, table := range manyTables(q) {
			is, ok := impl.IsTable(q, table)
			wantAnswer(t, "IsTable", q, table, is, ok, true)
		}
		for _, table := range noTables(q) {
			is, ok := impl.IsTable(q, table)
			wantAnswer(t, "IsTable", q, table, is, ok, false)
		}
	}
}

func wantAnswer(t *testing.T, name string, q int, list []int, got, ok, want bool) {
	t.Helper()
	if got != want || !ok {
		t.Errorf("%s(%d, %v) = %v, %v", name, q, list, got, ok)
	}
}

func TestReducedTermsHaveTheSameValues(t *testing.T) {
	for _, q := range sizes {
		m := modelPolysOfSize(q)
		for _, terms := range manyTerms(q) {
			got, ok := impl.ReducePoly(q, terms)
			wantPoly(t, "ReducePoly", q, got, ok, m.table(terms))
			wantList(t, fmt.Sprint("ReducePoly ", q, terms), got, ok, m.reduced(terms)...)
		}
		for _, f := range manyPolys(q) {
			got, ok := impl.ReducePoly(q, f)
			wantList(t, fmt.Sprint("ReducePoly ", q, f), got, ok, f...)
			got, ok = impl.ReducePoly(q, append(slices.Clone(f), make([]int, 40-len(f))...))
			wantList(t, fmt.Sprint("ReducePoly with zeros ", q, f), got, ok, f...)
		}
	}
}

// manyTerms has each power alone, x^k - x^q where the sum may vanish, and full and mixed lists of each length.
func manyTerms(q int) [][]int {
	mix := mixer(q)
	var lists [][]int
	for n := 0; n <= 40; n++ {
		lists = append(lists, make([]int, n), slices.Repeat([]int{1}, n), slices.Repeat([]int{q - 1}, n))
		for range 5 {
			lists = append(lists, mix.list(q, n))
		}
		if n == 0 {
			continue
		}
		alone := make([]int, n)
		alone[n-1] = 1 + mix.below(q-1)
		lists = append(lists, alone)
		if n > q {
			vanishing := make([]int, n)
			vanishing[n-1], vanishing[n-q] = 1, modelOf(q).minus(0, 1)
			lists = append(lists, vanishing)
		}
	}
	return lists
}

func (m modelField) minus(a, b int) int {
	for c := 0; ; c++ {
		if m.plus(b, c) == a {
			return c
		}
	}
}

func TestVanishingTermsAreThePolyZero(t *testing.T) {
	for _, q := range sizes {
		terms := make([]int, q+1)
		terms[1], terms[q] = modelOf(q).minus(0, 1), 1
		got, ok := impl.ReducePoly(q, terms)
		wantList(t, fmt.Sprint("x^q - x over ", q), got, ok)
	}
}

func TestSumsProductsAndJoinedPolysHaveTheValuesOfTheirParts(t *testing.T) {
	for _, q := range sizes {
		m := modelPolysOfSize(q)
		polys := pairedPolys(q)
		for _, f := range polys {
			first := m.table(f)
			for _, g := range polys {
				second := m.table(g)
				sums, products, joined := make([]int, q), make([]int, q), make([]int, q)
				for x := range q {
					sums[x] = m.sums[first[x]][second[x]]
					products[x] = m.products[first[x]][second[x]]
					joined[x] = first[second[x]]
				}
				got, ok := impl.PlusPoly(q, f, g)
				wantPoly(t, fmt.Sprint("PlusPoly ", f, g), q, got, ok, sums)
				got, ok = impl.TimesPoly(q, f, g)
				wantPoly(t, fmt.Sprint("TimesPoly ", f, g), q, got, ok, products)
				got, ok = impl.ComposePoly(q, f, g)
				wantPoly(t, fmt.Sprint("ComposePoly ", f, g), q, got, ok, joined)
			}
		}
	}
}

// pairedPolys has all polynomials over the least fields, and otherwise so few that all pairs of them can be tried.
func pairedPolys(q int) [][]int {
	if q <= 3 {
		return manyPolys(q)
	}
	if q <= 5 {
		return somePolys(q, 6)
	}
	return somePolys(q, 0)
}

func TestPolysPlusTheirNegativesAreZero(t *testing.T) {
	for _, q := range sizes {
		minusOne := modelOf(q).minus(0, 1)
		for _, f := range manyPolys(q) {
			negative, ok := impl.ScalePoly(q, f, minusOne)
			if !ok {
				t.Errorf("ScalePoly(%d, %v, %d) failed", q, f, minusOne)
			}
			sum, ok := impl.PlusPoly(q, f, negative)
			wantList(t, fmt.Sprint("PlusPoly ", q, f, negative), sum, ok)
		}
	}
}

func TestMultiplesAndMovedPolysHaveTheirValues(t *testing.T) {
	for _, q := range sizes {
		m := modelPolysOfSize(q)
		for _, f := range somePolys(q, 3) {
			table := m.table(f)
			for a := range q {
				multiples, moved := make([]int, q), make([]int, q)
				for x := range q {
					multiples[x] = m.products[a][table[x]]
					moved[x] = table[m.sums[x][a]]
				}
				got, ok := impl.ScalePoly(q, f, a)
				wantPoly(t, fmt.Sprint("ScalePoly ", f, a), q, got, ok, multiples)
				got, ok = impl.ShiftPoly(q, f, a)
				wantPoly(t, fmt.Sprint("ShiftPoly ", f, a), q, got, ok, moved)
			}
			got, ok := impl.ScalePoly(q, f, 0)
			wantList(t, fmt.Sprint("ScalePoly by 0 ", q, f), got, ok)
		}
	}
}

func TestPowersHaveThePowersOfTheValues(t *testing.T) {
	for _, q := range sizes {
		m := modelPolysOfSize(q)
		polys := append(somePolys(q, 0), []int{1, 1}, []int{0, q - 1})
		for _, f := range polys {
			table, powers := m.table(f), slices.Repeat([]int{1}, q)
			for k := 0; k <= 100; k++ {
				got, ok := impl.PowerPoly(q, f, k)
				wantPoly(t, fmt.Sprint("PowerPoly ", f, k), q, got, ok, powers)
				for x := range q {
					powers[x] = m.products[powers[x]][table[x]]
				}
			}
		}
		got, ok := impl.PowerPoly(q, nil, 0)
		wantList(t, "PowerPoly of 0 and 0", got, ok, 1)
		got, ok = impl.PowerPoly(q, nil, 100)
		wantList(t, "PowerPoly of 0 and 100", got, ok)
	}
}

func TestTablesThatAreMadeManyTimes(t *testing.T) {
	for _, q := range sizes {
		mix := mixer(q)
		tables := [][]int{mix.list(q, q), mix.list(q, q), make([]int, q), make([]int, q)}
		for x := range q {
			tables[2][x] = (x + 1) % q
			tables[3][x] = max(x-1, 0)
		}
		for _, table := range tables {
			reached := make([]int, q)
			for x := range q {
				reached[x] = x
			}
			for k := 0; k <= 1000; k++ {
				got, ok := impl.IterateTable(q, table, k)
				wantList(t, fmt.Sprint("IterateTable ", q, table, k), got, ok, reached...)
				for x := range q {
					reached[x] = table[reached[x]]
				}
			}
		}
	}
}

func TestExamplesOfPolys(t *testing.T) {
	f, ok := impl.ParsePoly(5, "1,0,2")
	wantList(t, "ParsePoly", f, ok, 1, 0, 2)
	table, ok := impl.TableOf(5, f)
	wantList(t, "TableOf", table, ok, 1, 3, 4, 4, 3)
	f, ok = impl.PolyOf(5, table)
	wantList(t, "PolyOf", f, ok, 1, 0, 2)
	f, ok = impl.ReducePoly(5, []int{0, 0, 0, 0, 0, 1})
	wantList(t, "ReducePoly", f, ok, 0, 1)
	degree, ok := impl.DegreeOf(5, nil)
	wantNumber(t, "DegreeOf", degree, ok, -1)
}

// TestWrittenResults has results that were worked out by hand.
func TestWrittenResults(t *testing.T) {
	f, ok := impl.PlusPoly(5, []int{1, 2, 3}, []int{4, 0, 2})
	wantList(t, "PlusPoly", f, ok, 0, 2)
	f, ok = impl.TimesPoly(4, []int{0, 2}, []int{1, 3})
	wantList(t, "TimesPoly", f, ok, 0, 2, 1)
	f, ok = impl.TimesPoly(3, []int{0, 0, 1}, []int{0, 0, 1})
	wantList(t, "TimesPoly", f, ok, 0, 0, 1)
	f, ok = impl.TimesPoly(5, []int{1, 1}, nil)
	wantList(t, "TimesPoly", f, ok)
	f, ok = impl.ComposePoly(5, []int{0, 0, 1}, []int{1, 1})
	wantList(t, "ComposePoly", f, ok, 1, 2, 1)
	f, ok = impl.ComposePoly(5, []int{1, 1}, []int{0, 0, 1})
	wantList(t, "ComposePoly", f, ok, 1, 0, 1)
	f, ok = impl.ComposePoly(5, []int{3, 1}, nil)
	wantList(t, "ComposePoly", f, ok, 3)
	f, ok = impl.ShiftPoly(7, []int{0, 0, 1}, 3)
	wantList(t, "ShiftPoly", f, ok, 2, 6, 1)
	f, ok = impl.ScalePoly(9, []int{1, 3}, 3)
	wantList(t, "ScalePoly", f, ok, 3, 2)
	f, ok = impl.PowerPoly(7, []int{0, 1}, 100)
	wantList(t, "PowerPoly", f, ok, 0, 0, 0, 0, 1)
	f, ok = impl.PolyOf(2, []int{1, 0})
	wantList(t, "PolyOf", f, ok, 1, 1)
	f, ok = impl.ReducePoly(2, []int{0, 1, 1, 1})
	wantList(t, "ReducePoly", f, ok, 0, 1)
	table, ok := impl.IterateTable(3, []int{1, 2, 0}, 1000)
	wantList(t, "IterateTable", table, ok, 1, 2, 0)
}
