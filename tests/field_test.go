package tests

import (
	"slices"
	"testing"

	"loop.example/g01163/impl"
)

func TestSizesAndPrimes(t *testing.T) {
	if impl.MaxSize != 16 {
		t.Error("MaxSize", impl.MaxSize)
	}
	wanted := map[int][2]int{2: {2, 1}, 3: {3, 1}, 4: {2, 2}, 5: {5, 1}, 7: {7, 1}, 8: {2, 3}, 9: {3, 2}, 11: {11, 1}, 13: {13, 1}, 16: {2, 4}}
	for q := -40; q <= 40; q++ {
		want, isSize := wanted[q]
		if impl.IsSize(q) != isSize {
			t.Errorf("IsSize(%d) = %v", q, !isSize)
		}
		if p, k, ok := impl.PrimeOf(q); p != want[0] || k != want[1] || ok != isSize {
			t.Errorf("PrimeOf(%d) = %d, %d, %v", q, p, k, ok)
		}
	}
}

func TestModuli(t *testing.T) {
	written := map[int][]int{4: {1, 1, 1}, 8: {1, 1, 0, 1}, 9: {1, 0, 1}, 16: {1, 1, 0, 0, 1}}
	for _, q := range sizes {
		want := []int{0, 1}
		if list := written[q]; list != nil {
			want = list
			if first := modelOf(q).modulus; !slices.Equal(first, want) {
				t.Errorf("the search for a modulus of %d gives %v", q, first)
			}
		}
		got, ok := impl.ModulusOf(q)
		wantList(t, "ModulusOf", got, ok, want...)
	}
}

func TestDigits(t *testing.T) {
	for _, q := range sizes {
		for a := range q {
			got, ok := impl.DigitsOf(q, a)
			wantList(t, "DigitsOf", got, ok, modelOf(q).digits(a)...)
		}
	}
	got, ok := impl.DigitsOf(9, 5)
	wantList(t, "DigitsOf(9, 5)", got, ok, 2, 1)
	got, ok = impl.DigitsOf(16, 0)
	wantList(t, "DigitsOf(16, 0)", got, ok, 0, 0, 0, 0)
}

func TestSumsAndProductsAreThoseOfTheDefinition(t *testing.T) {
	for _, q := range sizes {
		m := modelOf(q)
		for a := range q {
			for b := range q {
				sum, ok := impl.PlusOf(q, a, b)
				wantNumber(t, "PlusOf", sum, ok, m.plus(a, b))
				product, ok := impl.TimesOf(q, a, b)
				wantNumber(t, "TimesOf", product, ok, m.times(a, b))
			}
		}
	}
}

func TestFieldLaws(t *testing.T) {
	number := must[int](t)
	for _, q := range sizes {
		plus := func(a, b int) int { return number(impl.PlusOf(q, a, b)) }
		times := func(a, b int) int { return number(impl.TimesOf(q, a, b)) }
		for a := range q {
			if plus(a, 0) != a || times(a, 1) != a || times(a, 0) != 0 {
				t.Errorf("0 or 1 with %d in %d", a, q)
			}
			for b := range q {
				if plus(a, b) != plus(b, a) || times(a, b) != times(b, a) {
					t.Errorf("exchanged: %d, %d in %d", a, b, q)
				}
				if (times(a, b) == 0) != (a == 0 || b == 0) {
					t.Errorf("a product that is 0: %d, %d in %d", a, b, q)
				}
				for c := range q {
					if plus(plus(a, b), c) != plus(a, plus(b, c)) || times(times(a, b), c) != times(a, times(b, c)) {
						t.Errorf("grouped otherwise: %d, %d, %d in %d", a, b, c, q)
					}
					if times(a, plus(b, c)) != plus(times(a, b), times(a, c)) {
						t.Errorf("shared out: %d, %d, %d in %d", a, b, c, q)
					}
				}
			}
		}
	}
}

func TestDifferencesAndInversesUndo(t *testing.T) {
	number := must[int](t)
	for _, q := range sizes {
		for a := range q {
			for b := range q {
				difference := number(impl.LessOf(q, a, b))
				sum, ok := impl.PlusOf(q, difference, b)
				wantNumber(t, "PlusOf of LessOf", sum, ok, a)
			}
			if a == 0 {
				continue
			}
			inverse := number(impl.InverseOf(q, a))
			product, ok := impl.TimesOf(q, a, inverse)
			wantNumber(t, "TimesOf of InverseOf", product, ok, 1)
		}
		inverse, ok := impl.InverseOf(q, 0)
		failsNumber(t, "InverseOf", inverse, ok, q, 0)
	}
}

func TestPowersStepByStep(t *testing.T) {
	number := must[int](t)
	for _, q := range sizes {
		m := modelOf(q)
		for a := range q {
			up := 1
			for k := 0; k <= 1000; k++ {
				got, ok := impl.PowerOf(q, a, k)
				wantNumber(t, "PowerOf", got, ok, up)
				up = m.times(up, a)
			}
			for k := 1; k <= 1000; k++ {
				got, ok := impl.PowerOf(q, a, -k)
				if a == 0 {
					failsNumber(t, "PowerOf", got, ok, q, a, -k)
				} else if !ok || m.times(got, number(impl.PowerOf(q, a, k))) != 1 {
					t.Errorf("PowerOf(%d, %d, %d) = %d, %v", q, a, -k, got, ok)
				}
			}
		}
	}
}

func TestOrders(t *testing.T) {
	for _, q := range sizes {
		for a := 1; a < q; a++ {
			order, ok := impl.OrderOf(q, a)
			wantNumber(t, "OrderOf", order, ok, modelOf(q).order(a))
			if order < 1 || (q-1)%order != 0 {
				t.Errorf("the order %d of %d does not divide %d", order, a, q-1)
			}
		}
		order, ok := impl.OrderOf(q, 0)
		failsNumber(t, "OrderOf", order, ok, q, 0)
	}
}

func TestPrimitiveElements(t *testing.T) {
	firsts := map[int]int{2: 1, 3: 2, 4: 2, 5: 2, 7: 3, 8: 2, 9: 4, 11: 2, 13: 2, 16: 2}
	for _, q := range sizes {
		m := modelOf(q)
		var want []int
		for a := 1; a < q; a++ {
			if m.order(a) == q-1 {
				want = append(want, a)
			}
		}
		all, ok := impl.AllPrimitive(q)
		wantList(t, "AllPrimitive", all, ok, want...)
		first, ok := impl.FirstPrimitive(q)
		wantNumber(t, "FirstPrimitive", first, ok, firsts[q])
		if first != want[0] {
			t.Errorf("FirstPrimitive(%d) = %d, but %d is less", q, first, want[0])
		}
	}
}

func TestPowersOfFirstPrimitiveAndLogs(t *testing.T) {
	number := must[int](t)
	for _, q := range sizes {
		primitive := number(impl.FirstPrimitive(q))
		var met []int
		for k := range q - 1 {
			a := number(impl.PowerOf(q, primitive, k))
			met = append(met, a)
			log, ok := impl.LogOf(q, a)
			wantNumber(t, "LogOf", log, ok, k)
		}
		slices.Sort(met)
		for i, a := range met {
			if a != i+1 {
				t.Errorf("the powers of %d in %d are %v", primitive, q, met)
				break
			}
		}
		log, ok := impl.LogOf(q, 0)
		failsNumber(t, "LogOf", log, ok, q, 0)
	}
}

func TestTracesNormsAndConjugates(t *testing.T) {
	for _, q := range sizes {
		m := modelOf(q)
		for a := range q {
			sum, product := 0, 1
			var different []int
			for _, c := range m.conjugates(a) {
				sum, product = m.plus(sum, c), m.times(product, c)
				if !slices.Contains(different, c) {
					different = append(different, c)
				}
			}
			trace, ok := impl.TraceOf(q, a)
			wantNumber(t, "TraceOf", trace, ok, sum)
			norm, ok := impl.NormOf(q, a)
			wantNumber(t, "NormOf", norm, ok, product)
			if trace < 0 || trace >= m.prime || norm < 0 || norm >= m.prime {
				t.Errorf("the trace %d or the norm %d of %d in %d", trace, norm, a, q)
			}
			conjugates, ok := impl.ConjugatesOf(q, a)
			wantList(t, "ConjugatesOf", conjugates, ok, different...)
		}
	}
	got, ok := impl.ConjugatesOf(16, 2)
	wantList(t, "ConjugatesOf(16, 2)", got, ok, 2, 4, 3, 5)
	got, ok = impl.ConjugatesOf(16, 6)
	wantList(t, "ConjugatesOf(16, 6)", got, ok, 6, 7)
	got, ok = impl.ConjugatesOf(16, 0)
	wantList(t, "ConjugatesOf(16, 0)", got, ok, 0)
}

func TestSubfields(t *testing.T) {
	within := map[int][]int{2: {2}, 3: {3}, 4: {2, 4}, 5: {5}, 7: {7}, 8: {2, 8}, 9: {3, 9}, 11: {11}, 13: {13}, 16: {2, 4, 16}}
	for _, q := range sizes {
		m := modelOf(q)
		for r := -20; r <= 20; r++ {
			got, ok := impl.SubfieldOf(q, r)
			if !slices.Contains(within[q], r) {
				failsList(t, "SubfieldOf", got, ok, q, r)
				continue
			}
			var want []int
			for a := range q {
				if m.power(a, r) == a {
					want = append(want, a)
				}
			}
			wantList(t, "SubfieldOf", got, ok, want...)
			if len(got) != r {
				t.Errorf("SubfieldOf(%d, %d) has %d elements", q, r, len(got))
			}
			checkClosed(t, q, got)
		}
	}
	got, ok := impl.SubfieldOf(16, 4)
	wantList(t, "SubfieldOf(16, 4)", got, ok, 0, 1, 6, 7)
}

func checkClosed(t *testing.T, q int, elements []int) {
	t.Helper()
	for _, a := range elements {
		for _, b := range elements {
			sum, _ := impl.PlusOf(q, a, b)
			product, _ := impl.TimesOf(q, a, b)
			if !slices.Contains(elements, sum) || !slices.Contains(elements, product) {
				t.Errorf("%v in %d is not closed at %d and %d", elements, q, a, b)
			}
		}
	}
}

func TestSquares(t *testing.T) {
	for _, q := range sizes {
		m := modelOf(q)
		var want []int
		for a := range q {
			want = append(want, m.times(a, a))
		}
		slices.Sort(want)
		got, ok := impl.SquaresOf(q)
		wantList(t, "SquaresOf", got, ok, slices.Compact(want)...)
	}
	got, ok := impl.SquaresOf(7)
	wantList(t, "SquaresOf(7)", got, ok, 0, 1, 2, 4)
	got, ok = impl.SquaresOf(9)
	wantList(t, "SquaresOf(9)", got, ok, 0, 1, 2, 3, 6)
}

func TestSumOfAll(t *testing.T) {
	number := must[int](t)
	for _, q := range sizes {
		m := modelOf(q)
		minusOne := number(impl.LessOf(q, 0, 1))
		powers := slices.Repeat([]int{1}, q)
		for k := 0; k <= 1000; k++ {
			want := 0
			if k%(q-1) == 0 && k != 0 {
				want = minusOne
			}
			got, ok := impl.SumOfAll(q, k)
			wantNumber(t, "SumOfAll", got, ok, want)
			sum := 0
			for a := range q {
				sum = m.plus(sum, powers[a])
				powers[a] = m.times(powers[a], a)
			}
			wantNumber(t, "SumOfAll by the definition", got, ok, sum)
		}
	}
}

func TestExamplesOfFields(t *testing.T) {
	got, ok := impl.TimesOf(4, 2, 2)
	wantNumber(t, "TimesOf(4, 2, 2)", got, ok, 3)
	got, ok = impl.TimesOf(4, 2, 3)
	wantNumber(t, "TimesOf(4, 2, 3)", got, ok, 1)
	for i, want := range []int{1, 3, 3} {
		got, ok = impl.OrderOf(4, i+1)
		wantNumber(t, "OrderOf(4, ..)", got, ok, want)
	}
	got, ok = impl.TraceOf(4, 2)
	wantNumber(t, "TraceOf(4, 2)", got, ok, 1)
	got, ok = impl.TimesOf(9, 3, 3)
	wantNumber(t, "TimesOf(9, 3, 3)", got, ok, 2)
	got, ok = impl.TimesOf(8, 2, 4)
	wantNumber(t, "TimesOf(8, 2, 4)", got, ok, 3)
	got, ok = impl.TimesOf(16, 8, 8)
	wantNumber(t, "TimesOf(16, 8, 8)", got, ok, 12)
}

// TestFieldOfTwo has the results that are peculiar to the least field, where 1 is the only element other than 0.
func TestFieldOfTwo(t *testing.T) {
	got, ok := impl.PlusOf(2, 1, 1)
	wantNumber(t, "PlusOf", got, ok, 0)
	got, ok = impl.LessOf(2, 0, 1)
	wantNumber(t, "LessOf", got, ok, 1)
	got, ok = impl.InverseOf(2, 1)
	wantNumber(t, "InverseOf", got, ok, 1)
	got, ok = impl.OrderOf(2, 1)
	wantNumber(t, "OrderOf", got, ok, 1)
	got, ok = impl.FirstPrimitive(2)
	wantNumber(t, "FirstPrimitive", got, ok, 1)
	got, ok = impl.LogOf(2, 1)
	wantNumber(t, "LogOf", got, ok, 0)
	got, ok = impl.SumOfAll(2, 0)
	wantNumber(t, "SumOfAll", got, ok, 0)
	got, ok = impl.SumOfAll(2, 1)
	wantNumber(t, "SumOfAll", got, ok, 1)
	list, ok := impl.AllPrimitive(2)
	wantList(t, "AllPrimitive", list, ok, 1)
	list, ok = impl.ModulusOf(2)
	wantList(t, "ModulusOf", list, ok, 0, 1)
	list, ok = impl.SquaresOf(2)
	wantList(t, "SquaresOf", list, ok, 0, 1)
}
