package tests

import "slices"

// The model of chapter 6 tries all pairs of elements: for sums, and for the traces that tell adjoints.

// primePowers are 1, p, .., p^(k - 1).
func primePowers(q int) []int {
	f := modelOf(q)
	var powers []int
	for i := range f.places {
		powers = append(powers, power(f.prime, i))
	}
	return powers
}

func (m modelPolys) keepsSums(table []int) bool {
	for a := range table {
		for b := range table {
			if table[m.sums[a][b]] != m.sums[table[a]][table[b]] {
				return false
			}
		}
	}
	return true
}

// lessFirst takes the value at 0 away from all values.
func (m modelPolys) lessFirst(table []int) []int {
	var moved []int
	for _, y := range table {
		moved = append(moved, m.less(y, table[0]))
	}
	return moved
}

// additiveTerms ends with a coefficient other than 0.
func additiveTerms(q int, coefficients []int) []int {
	terms := make([]int, q)
	for i, n := range primePowers(q) {
		terms[n] = coefficients[i]
	}
	return withoutZeros(terms)
}

// coefficientLists has all of them but for the size 16. There it has those with one or two coefficients other than 0, those of multiples and sums of traces, so that all ranks are met, and others.
func coefficientLists(q int) [][]int {
	k := modelOf(q).places
	if power(q, k) <= 1000 {
		return allLists(q, k)
	}
	m, mix := modelPolysOfSize(q), mixer(q)
	lists := [][]int{make([]int, k)}
	for a := 1; a < q; a++ {
		for i := range k {
			for j := range i + 1 {
				list := make([]int, k)
				list[i], list[j] = 1, a
				lists = append(lists, list)
			}
		}
		one, other := m.traceCoefficients(a, 1+mix.below(q-1)), m.traceCoefficients(1+mix.below(q-1), a)
		lists = append(lists, one, other, m.sumsOf(one, other))
	}
	for range 300 {
		lists = append(lists, mix.list(q, k))
	}
	return lists
}

// traceCoefficients are those of a times the trace of b x.
func (m modelPolys) traceCoefficients(a, b int) []int {
	var list []int
	for _, n := range primePowers(m.size) {
		list = append(list, m.products[a][m.power(b, n)])
	}
	return list
}

func (m modelPolys) sumsOf(first, second []int) []int {
	var list []int
	for i, a := range first {
		list = append(list, m.sums[a][second[i]])
	}
	return list
}

func additivePolys(q int) [][]int {
	var polys [][]int
	for _, list := range coefficientLists(q) {
		polys = append(polys, additiveTerms(q, list))
	}
	return polys
}

// movedPolys are additive ones with each element added.
func movedPolys(q int) [][]int {
	var polys [][]int
	for _, f := range additivePolys(q) {
		for c := range q {
			moved := append(make([]int, 0, q), f...)
			if len(moved) == 0 {
				moved = append(moved, 0)
			}
			moved[0] = c
			polys = append(polys, withoutZeros(moved))
		}
	}
	return polys
}

// changedPolys are additive ones with another coefficient for one power.
func changedPolys(q int) [][]int {
	mix := mixer(q)
	var polys [][]int
	for _, f := range allButMost(additivePolys(q)) {
		for k := range q {
			changed := make([]int, q)
			copy(changed, f)
			changed[k] = mix.below(q)
			polys = append(polys, withoutZeros(changed))
		}
	}
	return polys
}

// notAdditive has a polynomial of each kind that is not additive.
func notAdditive(q int) [][]int {
	m := modelPolysOfSize(q)
	return slices.DeleteFunc(slices.Concat(somePolys(q, 3), allButMost(movedPolys(q)), allButMost(changedPolys(q))), func(f []int) bool {
		return m.keepsSums(m.table(f))
	})
}

func rowsOfList(k int, list []int) [][]int {
	var rows [][]int
	for i := range k {
		rows = append(rows, list[i*k:(i+1)*k])
	}
	return rows
}

// manyRows has all rows but for the size 16, where it has one of each 61.
func manyRows(q int) [][][]int {
	f := modelOf(q)
	n := f.places * f.places
	step := 1
	if q == 16 {
		step = 61
	}
	var all [][][]int
	for number := 0; number < power(f.prime, n); number += step {
		all = append(all, rowsOfList(f.places, digitList(f.prime, n, number)))
	}
	return all
}

// tableOfRows takes as many of each row as the digits of x tell, place by place.
func tableOfRows(q int, rows [][]int) []int {
	f := modelOf(q)
	var table []int
	for x := range q {
		digits := make([]int, f.places)
		for i, n := range f.digits(x) {
			for j, d := range rows[i] {
				digits[j] = (digits[j] + n*d) % f.prime
			}
		}
		table = append(table, numberOf(f.prime, digits))
	}
	return table
}

// rowsOfTable has the digits of the values at the elements p^i.
func rowsOfTable(q int, table []int) [][]int {
	var rows [][]int
	for _, a := range primePowers(q) {
		rows = append(rows, modelOf(q).digits(table[a]))
	}
	return rows
}

// tracePairs has the traces of all products.
func (m modelPolys) tracePairs() [][]int {
	f := modelOf(m.size)
	var traces []int
	for a := range m.size {
		sum := 0
		for _, c := range f.conjugates(a) {
			sum = m.sums[sum][c]
		}
		traces = append(traces, sum)
	}
	var pairs [][]int
	for a := range m.size {
		pairs = append(pairs, joinedTable(traces, m.products[a]))
	}
	return pairs
}

// adjointTable searches the value at each y among all elements, by the traces at all x.
func adjointTable(pairs [][]int, table []int) []int {
	var adjoint []int
	for y := range table {
		traces := joinedTable(pairs[y], table)
		for z := range table {
			if slices.Equal(traces, pairs[z]) {
				adjoint = append(adjoint, z)
			}
		}
	}
	return adjoint
}
