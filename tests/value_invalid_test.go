package tests

import (
	"fmt"
	"math"
	"slices"
	"testing"

	"loop.example/g01163/impl"
)

// wrongMoments are outside of 0..1000.
var wrongMoments = []int{-1, -2, -1000, 1001, 1002, 100000, math.MinInt, math.MinInt + 1, math.MaxInt - 1, math.MaxInt}

// valueCalls has each place where a polynomial is required, and succeeds for all of them.
func valueCalls() map[string]listCall {
	return map[string]listCall{
		"ValuesOf":          impl.ValuesOf,
		"CountValues":       func(q int, f []int) ([]int, bool) { return asList(impl.CountValues(q, f)) },
		"PlacesOf, 0":       func(q int, f []int) ([]int, bool) { return impl.PlacesOf(q, f, 0) },
		"PlacesOf, 1":       func(q int, f []int) ([]int, bool) { return impl.PlacesOf(q, f, 1) },
		"PlaceCounts":       impl.PlaceCounts,
		"PairsAlike":        func(q int, f []int) ([]int, bool) { return asList(impl.PairsAlike(q, f)) },
		"ValueMoment, 0":    func(q int, f []int) ([]int, bool) { return asList(impl.ValueMoment(q, f, 0)) },
		"ValueMoment, 1000": func(q int, f []int) ([]int, bool) { return asList(impl.ValueMoment(q, f, 1000)) },
		"ValuesOfSet, none": func(q int, f []int) ([]int, bool) { return impl.ValuesOfSet(q, f, nil) },
		"ValuesOfSet, two":  func(q int, f []int) ([]int, bool) { return impl.ValuesOfSet(q, f, []int{0, 1}) },
		"IsTwoToOne":        func(q int, f []int) ([]int, bool) { return yesAsList(impl.IsTwoToOne(q, f)) },
	}
}

// allValueCalls also has FirstMoment, which fails for some polynomials.
func allValueCalls() map[string]listCall {
	calls := valueCalls()
	calls["FirstMoment"] = func(q int, f []int) ([]int, bool) { return asList(impl.FirstMoment(q, f)) }
	return calls
}

// setCalls has each place where a set of elements is required.
func setCalls() map[string]listCall {
	return map[string]listCall{
		"ValuesOfSet of 0":     func(q int, set []int) ([]int, bool) { return impl.ValuesOfSet(q, nil, set) },
		"ValuesOfSet of x":     func(q int, set []int) ([]int, bool) { return impl.ValuesOfSet(q, []int{0, 1}, set) },
		"ValuesOfSet of x + 1": func(q int, set []int) ([]int, bool) { return impl.ValuesOfSet(q, []int{1, 1}, set) },
		"WithValues":           impl.WithValues,
	}
}

// boundCalls take a degree in 1..q - 1.
func boundCalls() map[string]ofElement {
	return map[string]ofElement{"LeastValues": impl.LeastValues, "MostValues": impl.MostValues}
}

// noSets has each place at which a list stops to increase, and at which a number is no element.
func noSets(q int) [][]int {
	all := identityTable(q)
	backwards := slices.Clone(all)
	slices.Reverse(backwards)
	lists := [][]int{{0, 0}, {1, 0}, {q - 1, q - 1}, {q - 1, 0}, backwards, make([]int, q), slices.Repeat([]int{1}, q), append(all, q-1), append(all, q), append(all, 0), append([]int{-1}, all...), append(all, q, q+1)}
	for i := range q - 1 {
		exchanged, again, less := slices.Clone(all), slices.Clone(all), slices.Clone(all)
		exchanged[i], exchanged[i+1] = i+1, i
		again[i+1] = i
		less[i+1] = 0
		lists = append(lists, exchanged, again, again[i:i+2], less, exchanged[i:i+2])
	}
	for _, a := range noElements(q) {
		lists = append(lists, []int{a}, []int{0, a}, []int{a, 0})
		for i := range q {
			list := identityTable(q)
			list[i] = a
			lists = append(lists, list, list[:i+1], list[i:])
		}
	}
	return lists
}

func failsBounds(t *testing.T, q, degree int) {
	t.Helper()
	for name, call := range boundCalls() {
		got, ok := call(q, degree)
		failsNumber(t, name, got, ok, q, degree)
	}
}

func failsMaps(t *testing.T, q, k int) {
	t.Helper()
	count, ok := impl.MapsWithValues(q, k)
	failsNumber(t, "MapsWithValues", count, ok, q, k)
}

func TestListsThatAreNoPolysHaveNoValues(t *testing.T) {
	for _, q := range sizes {
		failsLists(t, q, allValueCalls(), noPolys(q))
		failsLists(t, q, allValueCalls(), longLists)
	}
}

func TestListsThatAreNoSetsHaveNoValues(t *testing.T) {
	for _, q := range sizes {
		failsLists(t, q, setCalls(), noSets(q))
		failsLists(t, q, setCalls(), longLists)
		failsLists(t, q, setCalls(), [][]int{identityTable(41), identityTable(100000)})
	}
}

func TestNoValuesHaveNoPoly(t *testing.T) {
	for _, q := range sizes {
		failsLists(t, q, map[string]listCall{"WithValues": impl.WithValues}, [][]int{nil, {}})
	}
}

func TestPolysAndSetsAreBothLookedAt(t *testing.T) {
	for _, q := range sizes {
		for _, f := range [][]int{{0}, {1, 0}, {q}, {-1, 1}, slices.Repeat([]int{1}, q+1)} {
			for _, set := range [][]int{nil, {0}, identityTable(q), {0, 0}, {q}} {
				values, ok := impl.ValuesOfSet(q, f, set)
				failsList(t, "ValuesOfSet", values, ok, slices.Concat([]int{q}, f, set)...)
			}
		}
	}
}

func TestNoElementsHaveNoPlaces(t *testing.T) {
	for _, q := range sizes {
		for _, y := range noElements(q) {
			for _, f := range [][]int{nil, {1}, {0, 1}, {0}, {y}} {
				places, ok := impl.PlacesOf(q, f, y)
				failsList(t, "PlacesOf", places, ok, q, y)
			}
		}
	}
}

func TestNoSizesHaveNoValues(t *testing.T) {
	lists := [][]int{nil, {0}, {1}, {0, 1}, {1, 1}, {1, 0}, {0, 0, 1}, {-1}, {17}, identityTable(6), make([]int, 40)}
	for _, q := range noSizes {
		failsLists(t, q, allValueCalls(), lists)
		failsLists(t, q, setCalls(), lists)
		for _, n := range []int{-1, 0, 1, 2, 3, q - 1, q, q + 1} {
			failsBounds(t, q, n)
			failsMaps(t, q, n)
			counts, ok := impl.CountByValues(q, n)
			failsList(t, "CountByValues", counts, ok, q, n)
		}
	}
}

func TestMomentsOutsideOfTheirLimitsFail(t *testing.T) {
	for _, q := range sizes {
		for _, k := range wrongMoments {
			for _, f := range [][]int{nil, {1}, {0, 1}, append(make([]int, q-1), 1)} {
				moment, ok := impl.ValueMoment(q, f, k)
				failsNumber(t, "ValueMoment", moment, ok, append([]int{q, k}, f...)...)
			}
		}
	}
}

func TestDegreesOfValuesOutsideOfTheirLimitsFail(t *testing.T) {
	for _, q := range sizes {
		failsBounds(t, q, 0)
		for _, degree := range []int{-1, -2, -q, q, q + 1, 2 * q, 1000, math.MinInt, math.MinInt + 1, math.MaxInt - 1, math.MaxInt} {
			failsBounds(t, q, degree)
			counts, ok := impl.CountByValues(q, degree)
			failsList(t, "CountByValues", counts, ok, q, degree)
		}
	}
}

func TestCountsOfMapsOutsideOfTheirLimitsFail(t *testing.T) {
	for _, q := range sizes {
		for _, k := range []int{-1, -2, -q, q + 1, q + 2, 2 * q, 1000, math.MinInt, math.MinInt + 1, math.MaxInt - 1, math.MaxInt} {
			failsMaps(t, q, k)
		}
	}
	for k := range 18 {
		failsMaps(t, 16, k)
	}
}

func TestLimitsOfValuesAreMetExactly(t *testing.T) {
	moment, ok := impl.ValueMoment(11, []int{0, 1}, 1000)
	wantNumber(t, "ValueMoment", moment, ok, 10)
	moment, ok = impl.ValueMoment(11, []int{0, 1}, 0)
	wantNumber(t, "ValueMoment", moment, ok, 0)
	moment, ok = impl.ValueMoment(11, nil, 1000)
	wantNumber(t, "ValueMoment of 0", moment, ok, 0)
	for _, q := range sizes {
		least, ok := impl.LeastValues(q, 1)
		wantNumber(t, fmt.Sprint("LeastValues ", q), least, ok, q)
		least, ok = impl.LeastValues(q, q-1)
		wantNumber(t, fmt.Sprint("LeastValues ", q), least, ok, 2)
		most, ok := impl.MostValues(q, 1)
		wantNumber(t, fmt.Sprint("MostValues ", q), most, ok, 1)
		most, ok = impl.MostValues(q, q-1)
		wantNumber(t, fmt.Sprint("MostValues ", q), most, ok, q-1)
		counts, ok := impl.CountByValues(q, 0)
		wantList(t, fmt.Sprint("CountByValues ", q), counts, ok, append([]int{0, q - 1}, make([]int, q-1)...)...)
		full := append(make([]int, q-1), 1)
		values, ok := impl.ValuesOf(q, full)
		wantList(t, fmt.Sprint("ValuesOf ", q), values, ok, 0, 1)
		values, ok = impl.ValuesOfSet(q, full, identityTable(q))
		wantList(t, fmt.Sprint("ValuesOfSet ", q), values, ok, 0, 1)
		f, ok := impl.WithValues(q, identityTable(q))
		wantList(t, fmt.Sprint("WithValues ", q), f, ok, 0, 1)
		f, ok = impl.WithValues(q, []int{q - 1})
		wantList(t, fmt.Sprint("WithValues ", q), f, ok, q-1)
	}
	counts, ok := impl.CountByValues(5, 4)
	wantList(t, "CountByValues", counts, ok, modelPolysOfSize(5).countsByValues(4)...)
	count, ok := impl.MapsWithValues(13, 13)
	wantNumber(t, "MapsWithValues", count, ok, 6227020800)
}

func TestNilAndEmptyListsHaveTheSameValues(t *testing.T) {
	for _, calls := range []map[string]listCall{allValueCalls(), setCalls()} {
		for name, call := range calls {
			first, ok := call(5, nil)
			second, okToo := call(5, []int{})
			if ok != okToo || !slices.Equal(first, second) {
				t.Errorf("%s: %v, %v for nil, and %v, %v for an empty list", name, first, ok, second, okToo)
			}
		}
	}
}

func TestPolyZeroHasValues(t *testing.T) {
	for _, q := range sizes {
		for name, call := range valueCalls() {
			if _, ok := call(q, nil); !ok {
				t.Errorf("%s fails for 0 over %d", name, q)
			}
		}
	}
}

func TestArgumentsOfValuesAndWhatIsBehindThemAreKept(t *testing.T) {
	for _, q := range sizes {
		polys := slices.Concat(somePolys(q, 1), allButMost(valuedPolys(t, q)), allButMost(noPolys(q)))
		checkKept(t, q, allValueCalls(), polys)
		checkKept(t, q, setCalls(), slices.Concat(allButMost(manySets(q)), allButMost(noSets(q))))
	}
}

func TestListsOfValuesAreNewEachTime(t *testing.T) {
	for _, q := range sizes {
		for _, f := range [][]int{nil, {q - 1}, {0, 1}, slices.Repeat([]int{1}, q)} {
			for name, call := range allValueCalls() {
				if _, ok := call(q, f); ok {
					checkNew(t, fmt.Sprint(name, " ", q, f), func() ([]int, bool) { return call(q, f) })
				}
			}
			checkNew(t, "ValuesOfSet", func() ([]int, bool) { return impl.ValuesOfSet(q, f, identityTable(q)) })
		}
		for name, call := range setCalls() {
			checkNew(t, fmt.Sprint(name, " ", q), func() ([]int, bool) { return call(q, identityTable(q)) })
		}
		for degree := range lookedDegrees[q] + 1 {
			checkNew(t, "CountByValues", func() ([]int, bool) { return impl.CountByValues(q, degree) })
		}
	}
}
