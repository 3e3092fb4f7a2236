package tests

import (
	"fmt"
	"math"
	"slices"
	"testing"

	"loop.example/g01163/impl"
)

// listCall is a call with a list, whose result is told as a list: numbers and texts too, so that all calls can be tried alike.
type listCall = func(q int, list []int) ([]int, bool)

func asList(number int, ok bool) ([]int, bool) {
	if number == 0 && !ok {
		return nil, false
	}
	return []int{number}, ok
}

func yesAsList(yes, ok bool) ([]int, bool) {
	if yes {
		return []int{1}, ok
	}
	return nil, ok
}

func bytesAsList(text string, ok bool) ([]int, bool) {
	var list []int
	for _, b := range []byte(text) {
		list = append(list, int(b))
	}
	return list, ok
}

// polyCalls has each place where a polynomial is required.
func polyCalls() map[string]listCall {
	one := []int{1}
	return map[string]listCall{
		"ValueAt":            func(q int, f []int) ([]int, bool) { return asList(impl.ValueAt(q, f, 1)) },
		"TableOf":            impl.TableOf,
		"DegreeOf":           func(q int, f []int) ([]int, bool) { return asList(impl.DegreeOf(q, f)) },
		"PlusPoly, first":    func(q int, f []int) ([]int, bool) { return impl.PlusPoly(q, f, one) },
		"PlusPoly, second":   func(q int, f []int) ([]int, bool) { return impl.PlusPoly(q, one, f) },
		"PlusPoly, both":     func(q int, f []int) ([]int, bool) { return impl.PlusPoly(q, f, f) },
		"TimesPoly, first":   func(q int, f []int) ([]int, bool) { return impl.TimesPoly(q, f, one) },
		"TimesPoly, second":  func(q int, f []int) ([]int, bool) { return impl.TimesPoly(q, one, f) },
		"TimesPoly, both":    func(q int, f []int) ([]int, bool) { return impl.TimesPoly(q, f, f) },
		"ScalePoly":          func(q int, f []int) ([]int, bool) { return impl.ScalePoly(q, f, 1) },
		"ComposePoly, outer": func(q int, f []int) ([]int, bool) { return impl.ComposePoly(q, f, one) },
		"ComposePoly, inner": func(q int, f []int) ([]int, bool) { return impl.ComposePoly(q, one, f) },
		"ComposePoly, both":  func(q int, f []int) ([]int, bool) { return impl.ComposePoly(q, f, f) },
		"ShiftPoly":          func(q int, f []int) ([]int, bool) { return impl.ShiftPoly(q, f, 0) },
		"PowerPoly, 0":       func(q int, f []int) ([]int, bool) { return impl.PowerPoly(q, f, 0) },
		"PowerPoly, 1":       func(q int, f []int) ([]int, bool) { return impl.PowerPoly(q, f, 1) },
		"NumberOfPoly":       func(q int, f []int) ([]int, bool) { return asList(impl.NumberOfPoly(q, f)) },
		"PolyText":           func(q int, f []int) ([]int, bool) { return bytesAsList(impl.PolyText(q, f)) },
	}
}

func tableCalls() map[string]listCall {
	return map[string]listCall{
		"PolyOf":             impl.PolyOf,
		"IterateTable, 0":    func(q int, table []int) ([]int, bool) { return impl.IterateTable(q, table, 0) },
		"IterateTable, 1":    func(q int, table []int) ([]int, bool) { return impl.IterateTable(q, table, 1) },
		"IterateTable, 1000": func(q int, table []int) ([]int, bool) { return impl.IterateTable(q, table, 1000) },
	}
}

func isCalls() map[string]listCall {
	return map[string]listCall{
		"IsPoly":  func(q int, f []int) ([]int, bool) { return yesAsList(impl.IsPoly(q, f)) },
		"IsTable": func(q int, table []int) ([]int, bool) { return yesAsList(impl.IsTable(q, table)) },
	}
}

// noPolys has at most 40 numbers in each list, so that IsPoly and IsTable accept them.
func noPolys(q int) [][]int {
	lists := [][]int{{0}, {0, 0}, {1, 0}, make([]int, q), make([]int, q+1), append(slices.Repeat([]int{1}, q), 0), append(make([]int, q), 1),
		slices.Repeat([]int{1}, q+1), slices.Repeat([]int{1}, 40), make([]int, 40), append(slices.Repeat([]int{1}, q-1), 0)}
	for _, a := range noElements(q) {
		lists = append(lists, []int{a}, []int{a, 1}, []int{1, a})
		for i := range q {
			full := slices.Repeat([]int{1}, q)
			full[i] = a
			lists = append(lists, full)
		}
	}
	return lists
}

func noTables(q int) [][]int {
	lists := [][]int{nil, {0}, {1}, make([]int, q-1), make([]int, q+1), slices.Repeat([]int{1}, q-1), slices.Repeat([]int{1}, q+1), make([]int, 40)}
	for _, a := range noElements(q) {
		for i := range q {
			table := make([]int, q)
			table[i] = a
			lists = append(lists, table)
		}
	}
	return lists
}

var longLists = [][]int{make([]int, 41), slices.Repeat([]int{1}, 41), make([]int, 100000), slices.Repeat([]int{-1}, 41)}

func TestListsThatAreNoPolysFail(t *testing.T) {
	for _, q := range sizes {
		failsLists(t, q, polyCalls(), noPolys(q))
		failsLists(t, q, polyCalls(), longLists)
	}
}

func TestListsThatAreNoTablesFail(t *testing.T) {
	for _, q := range sizes {
		failsLists(t, q, tableCalls(), noTables(q))
		failsLists(t, q, tableCalls(), longLists)
	}
}

func TestTermsThatAreNoneFail(t *testing.T) {
	reduce := map[string]listCall{"ReducePoly": impl.ReducePoly}
	for _, q := range sizes {
		failsLists(t, q, reduce, longLists)
		for _, a := range noElements(q) {
			for i := range 40 {
				terms := make([]int, 40)
				terms[i] = a
				failsLists(t, q, reduce, [][]int{terms, terms[:i+1]})
			}
		}
	}
}

func TestTooLongListsAreNoneToLookAt(t *testing.T) {
	for _, q := range sizes {
		failsLists(t, q, isCalls(), longLists)
	}
}

func TestNoSizesFailForLists(t *testing.T) {
	lists := [][]int{nil, {0}, {1}, {0, 1}, {1, 0}, {-1}, {17}, make([]int, 6), make([]int, 40)}
	for _, q := range noSizes {
		if q > 0 && q < 40 {
			lists = append(lists, make([]int, q), slices.Repeat([]int{1}, q))
		}
	}
	for _, q := range noSizes {
		for _, calls := range []map[string]listCall{polyCalls(), tableCalls(), isCalls(), {"ReducePoly": impl.ReducePoly}} {
			failsLists(t, q, calls, lists)
		}
		for _, number := range []int{-1, 0, 1, 5, 999999, 1000000} {
			f, ok := impl.PolyWith(q, number)
			failsList(t, "PolyWith", f, ok, q, number)
		}
	}
}

func failsLists(t *testing.T, q int, calls map[string]listCall, lists [][]int) {
	t.Helper()
	for name, call := range calls {
		for _, list := range lists {
			if got, ok := call(q, list); ok || len(got) != 0 {
				t.Errorf("%s(%d, %v) = %v, %v", name, q, list[:min(len(list), 50)], got, ok)
			}
		}
	}
}

func TestNoElementsFailForPolys(t *testing.T) {
	for _, q := range sizes {
		for _, a := range noElements(q) {
			for _, f := range [][]int{nil, {1}, {0, 1}} {
				value, ok := impl.ValueAt(q, f, a)
				failsNumber(t, "ValueAt", value, ok, q, a)
				scaled, ok := impl.ScalePoly(q, f, a)
				failsList(t, "ScalePoly", scaled, ok, q, a)
				shifted, ok := impl.ShiftPoly(q, f, a)
				failsList(t, "ShiftPoly", shifted, ok, q, a)
			}
		}
	}
}

func TestNumbersOutsideOfTheirLimitsFail(t *testing.T) {
	limits := []int{-1, -2, math.MinInt, math.MinInt + 1, math.MaxInt - 1, math.MaxInt}
	for _, q := range sizes {
		for _, k := range append(limits, 101, 102, 1000) {
			f, ok := impl.PowerPoly(q, []int{1}, k)
			failsList(t, "PowerPoly", f, ok, q, k)
			f, ok = impl.PowerPoly(q, nil, k)
			failsList(t, "PowerPoly of 0", f, ok, q, k)
		}
		for _, k := range append(limits, 1001, 1002) {
			table, ok := impl.IterateTable(q, make([]int, q), k)
			failsList(t, "IterateTable", table, ok, q, k)
		}
		for _, number := range append(limits, 1000000) {
			f, ok := impl.PolyWith(q, number)
			failsList(t, "PolyWith", f, ok, q, number)
		}
	}
}

func TestLimitsOfPolysAreMetExactly(t *testing.T) {
	is, ok := impl.IsPoly(16, slices.Repeat([]int{1}, 16))
	if !is || !ok {
		t.Error("IsPoly with 16 coefficients")
	}
	f, ok := impl.ReducePoly(16, append(make([]int, 39), 7))
	wantList(t, "ReducePoly", f, ok, 0, 0, 0, 0, 0, 0, 0, 0, 0, 7)
	f, ok = impl.ReducePoly(2, slices.Repeat([]int{1}, 40))
	wantList(t, "ReducePoly", f, ok, 1, 1)
	f, ok = impl.PowerPoly(11, []int{0, 2}, 100)
	wantList(t, "PowerPoly", f, ok, 0, 0, 0, 0, 0, 0, 0, 0, 0, 0, 1)
	f, ok = impl.PowerPoly(11, []int{0, 2}, 0)
	wantList(t, "PowerPoly", f, ok, 1)
	table, ok := impl.IterateTable(7, []int{1, 2, 3, 4, 5, 6, 0}, 1000)
	wantList(t, "IterateTable", table, ok, 6, 0, 1, 2, 3, 4, 5)
	table, ok = impl.IterateTable(7, []int{1, 2, 3, 4, 5, 6, 0}, 0)
	wantList(t, "IterateTable", table, ok, 0, 1, 2, 3, 4, 5, 6)
	f, ok = impl.PolyWith(8, 999999)
	wantList(t, "PolyWith", f, ok, 7, 7, 0, 1, 4, 6, 3)
	number, ok := impl.NumberOfPoly(8, f)
	wantNumber(t, "NumberOfPoly", number, ok, 999999)
	f, ok = impl.PolyWith(8, 0)
	wantList(t, "PolyWith", f, ok)
	number, ok = impl.NumberOfPoly(8, nil)
	wantNumber(t, "NumberOfPoly", number, ok, 0)
}

func TestNilAndEmptyListsAreTheSame(t *testing.T) {
	for name, call := range polyCalls() {
		first, ok := call(5, nil)
		second, okToo := call(5, []int{})
		if !slices.Equal(first, second) || !ok || !okToo {
			t.Errorf("%s: %v, %v for nil, and %v, %v for an empty list", name, first, ok, second, okToo)
		}
	}
}

// TestArgumentsAndWhatIsBehindThemAreKept calls with other lists behind the argument: the results must not tell them apart, nor share memory with it.
func TestArgumentsAndWhatIsBehindThemAreKept(t *testing.T) {
	for _, q := range sizes {
		polys := append(somePolys(q, 1), noPolys(q)...)
		checkKept(t, q, polyCalls(), polys)
		checkKept(t, q, isCalls(), polys)
		checkKept(t, q, tableCalls(), append(allButMost(manyTables(q)), noTables(q)...))
		checkKept(t, q, map[string]listCall{"ReducePoly": impl.ReducePoly}, allButMost(manyTerms(q)))
	}
}

func allButMost(lists [][]int) [][]int {
	var some [][]int
	for i := 0; i < len(lists); i += len(lists)/40 + 1 {
		some = append(some, lists[i])
	}
	return append(some, lists[len(lists)-1])
}

func checkKept(t *testing.T, q int, calls map[string]listCall, lists [][]int) {
	t.Helper()
	for name, call := range calls {
		for _, list := range lists {
			want, wantOk := call(q, slices.Clone(list))
			for _, behind := range []int{0, 1, -5} {
				whole := append(slices.Clone(list), slices.Repeat([]int{behind}, 45)...)
				before := slices.Clone(whole)
				got, ok := call(q, whole[:len(list)])
				if ok != wantOk || !slices.Equal(got, want) {
					t.Errorf("%s(%d, %v) = %v, %v with %d behind, want %v, %v", name, q, list, got, ok, behind, want, wantOk)
				}
				overwrite(got)
				if !slices.Equal(whole, before) {
					t.Errorf("%s(%d, %v) changed its argument to %v", name, q, list, whole)
				}
			}
		}
	}
}

func overwrite(list []int) {
	list = list[:cap(list)]
	for i := range list {
		list[i] = -7
	}
}

func TestListsOfPolysAreNewEachTime(t *testing.T) {
	for _, q := range sizes {
		identity := make([]int, q)
		for x := range q {
			identity[x] = x
		}
		for name, call := range polyCalls() {
			checkNew(t, fmt.Sprint(name, " ", q), func() ([]int, bool) { return call(q, []int{1, 1}) })
		}
		for name, call := range tableCalls() {
			checkNew(t, fmt.Sprint(name, " ", q), func() ([]int, bool) { return call(q, identity) })
		}
		checkNew(t, "ReducePoly", func() ([]int, bool) { return impl.ReducePoly(q, slices.Repeat([]int{1}, 40)) })
		checkNew(t, "PolyWith", func() ([]int, bool) { return impl.PolyWith(q, q+1) })
		checkNew(t, "ParsePoly", func() ([]int, bool) { return impl.ParsePoly(q, "0,1") })
	}
}
