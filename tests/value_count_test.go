package tests

import (
	"fmt"
	"slices"
	"testing"

	"loop.example/g01163/impl"
)

// lookedDegrees has the greatest degree of which there are at most MaxLooked polynomials.
var lookedDegrees = map[int]int{2: 1, 3: 2, 4: 3, 5: 4, 7: 4, 8: 3, 9: 3, 11: 3, 13: 2, 16: 2}

func TestMaxLooked(t *testing.T) {
	if impl.MaxLooked != 20000 {
		t.Error("MaxLooked", impl.MaxLooked)
	}
}

func sumOfNumbers(list []int) int {
	sum := 0
	for _, n := range list {
		sum += n
	}
	return sum
}

// TestBoundsOfValuesAreRounded searches for the numbers by steps of 1.
func TestBoundsOfValuesAreRounded(t *testing.T) {
	for _, q := range sizes {
		for degree := 1; degree < q; degree++ {
			least, most := 0, q
			for least*degree < q {
				least++
			}
			for degree*most > q*degree-(q-1) {
				most--
			}
			got, ok := impl.LeastValues(q, degree)
			wantNumber(t, fmt.Sprint("LeastValues ", q, degree), got, ok, least)
			got, ok = impl.MostValues(q, degree)
			wantNumber(t, fmt.Sprint("MostValues ", q, degree), got, ok, most)
		}
	}
}

func TestWrittenBoundsOfValues(t *testing.T) {
	for _, row := range []struct {
		q           int
		least, most []int
	}{
		{2, []int{2}, []int{1}},
		{3, []int{3, 2}, []int{1, 2}},
		{7, []int{7, 4, 3, 2, 2, 2}, []int{1, 4, 5, 5, 5, 6}},
		{16, []int{16, 8, 6, 4, 4, 3, 3, 2, 2, 2, 2, 2, 2, 2, 2}, []int{1, 8, 11, 12, 13, 13, 13, 14, 14, 14, 14, 14, 14, 14, 15}},
	} {
		for i := range row.least {
			got, ok := impl.LeastValues(row.q, i+1)
			wantNumber(t, fmt.Sprint("LeastValues ", row.q, i+1), got, ok, row.least[i])
			got, ok = impl.MostValues(row.q, i+1)
			wantNumber(t, fmt.Sprint("MostValues ", row.q, i+1), got, ok, row.most[i])
		}
	}
}

func TestPolysAreCountedByTheirValues(t *testing.T) {
	number := must[int](t)
	for _, q := range sizes {
		m := modelPolysOfSize(q)
		for degree := range lookedDegrees[q] + 1 {
			name := fmt.Sprint("CountByValues ", q, degree)
			counts, ok := impl.CountByValues(q, degree)
			wantList(t, name, counts, ok, m.countsByValues(degree)...)
			wantNumber(t, "sum of "+name, sumOfNumbers(counts), ok, (q-1)*power(q, degree))
			if degree == 0 || len(counts) != q+1 {
				continue
			}
			least, most := number(impl.LeastValues(q, degree)), number(impl.MostValues(q, degree))
			for k, count := range counts {
				if count != 0 && k != q && (k < least || k > most) {
					t.Errorf("%s has %d for %d values", name, count, k)
				}
			}
			if q <= impl.MaxCounted {
				wantNumber(t, "those that permute, "+name, counts[q], ok, number(impl.CountPermuting(q, degree)))
			}
		}
	}
}

func TestTooManyPolysAreNotCounted(t *testing.T) {
	for _, q := range sizes {
		last := lookedDegrees[q]
		if n := (q - 1) * power(q, last); n > 20000 || last < q-1 && n*q <= 20000 {
			t.Errorf("the greatest degree over %d is not %d", q, last)
		}
		for degree := last + 1; degree < q; degree++ {
			counts, ok := impl.CountByValues(q, degree)
			failsList(t, "CountByValues", counts, ok, q, degree)
		}
	}
}

func TestWrittenCountsByValues(t *testing.T) {
	for _, row := range []struct {
		q, degree int
		want      []int
	}{
		{2, 0, []int{0, 1, 0}},
		{2, 1, []int{0, 0, 2}},
		{3, 0, []int{0, 2, 0, 0}},
		{3, 1, []int{0, 0, 0, 6}},
		{3, 2, []int{0, 0, 18, 0}},
		{4, 2, []int{0, 0, 36, 0, 12}},
		{5, 2, []int{0, 0, 0, 100, 0, 0}},
		{16, 0, append([]int{0, 15}, make([]int, 15)...)},
		{16, 1, append(make([]int, 16), 240)},
	} {
		counts, ok := impl.CountByValues(row.q, row.degree)
		wantList(t, fmt.Sprint("CountByValues ", row.q, row.degree), counts, ok, row.want...)
	}
}

func TestMapsAreCountedByTheirValues(t *testing.T) {
	for _, q := range sizes {
		if q > 13 {
			continue
		}
		sum := 0
		for k := range q + 1 {
			count, ok := impl.MapsWithValues(q, k)
			wantNumber(t, fmt.Sprint("MapsWithValues ", q, k), count, ok, int(mapsWith(q, k).Int64()))
			sum += count
		}
		wantNumber(t, fmt.Sprint("all maps over ", q), sum, true, power(q, q))
	}
}

func TestAllTablesAreCountedByTheirValues(t *testing.T) {
	for _, q := range []int{2, 3, 4, 5} {
		tables := make([]int, q+1)
		for _, table := range allLists(q, q) {
			tables[len(differentIn(table))]++
		}
		// The polynomial 0 has no degree, and one value.
		polys := make([]int, q+1)
		polys[1] = 1
		for degree := range q {
			counts, ok := impl.CountByValues(q, degree)
			if len(counts) != q+1 || !ok {
				t.Fatalf("CountByValues(%d, %d) = %v, %v", q, degree, counts, ok)
			}
			for k, count := range counts {
				polys[k] += count
			}
		}
		wantList(t, fmt.Sprint("polynomials over ", q), polys, true, tables...)
		for k, want := range tables {
			count, ok := impl.MapsWithValues(q, k)
			wantNumber(t, fmt.Sprint("MapsWithValues ", q, k), count, ok, want)
		}
	}
}

func TestWrittenCountsOfMaps(t *testing.T) {
	for _, row := range []struct{ q, k, want int }{
		{2, 0, 0}, {2, 1, 2}, {2, 2, 2}, {3, 1, 3}, {3, 2, 18}, {3, 3, 6}, {4, 2, 84}, {5, 5, 120},
		{13, 0, 0}, {13, 1, 13}, {13, 2, 638820}, {13, 8, 98574361966080}, {13, 13, 6227020800},
	} {
		count, ok := impl.MapsWithValues(row.q, row.k)
		wantNumber(t, fmt.Sprint("MapsWithValues ", row.q, row.k), count, ok, row.want)
	}
	for _, q := range slices.DeleteFunc(slices.Clone(sizes), func(q int) bool { return q > 13 }) {
		count, ok := impl.MapsWithValues(q, 0)
		wantNumber(t, fmt.Sprint("MapsWithValues ", q, 0), count, ok, 0)
		count, ok = impl.MapsWithValues(q, 1)
		wantNumber(t, fmt.Sprint("MapsWithValues ", q, 1), count, ok, q)
	}
}
