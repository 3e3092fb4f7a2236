package tests

import (
	"math/big"
	"slices"
)

// The model of chapter 4 tries divisors one by one, and takes Dickson's polynomials from their recurrence on tables and from their formula in whole numbers.

// shareDivisor is for numbers of at least 1.
func shareDivisor(a, b int) bool {
	for d := 2; d <= min(a, b); d++ {
		if a%d == 0 && b%d == 0 {
			return true
		}
	}
	return false
}

func powersPermute(q, n int) bool { return n >= 1 && !shareDivisor(n, q-1) }

func dicksonsPermute(q, n, a int) bool {
	if a == 0 {
		return powersPermute(q, n)
	}
	return n >= 1 && !shareDivisor(n, q*q-1)
}

// exponents has the least ones, those around q, q - 1 and q q - 1 and their multiples, and the greatest ones.
func exponents(q int) []int {
	list := identityTable(25)
	for _, n := range []int{q, 2 * q, 2*q - 2, 3*q - 3, q * q, q*q - 1, 2*q*q - 2, 100, 128, 199, 255, 360, 397, 399} {
		list = append(list, n-1, n, n+1)
	}
	list = slices.DeleteFunc(list, func(n int) bool { return n > 400 })
	slices.Sort(list)
	return slices.Compact(list)
}

func divisorsOf(n int) []int {
	var list []int
	for d := 1; d <= n; d++ {
		if n%d == 0 {
			list = append(list, d)
		}
	}
	return list
}

func (m modelPolys) less(a, b int) int { return slices.Index(m.sums[b], a) }

func (m modelPolys) inverse(a int) int { return slices.Index(m.products[a], 1) }

func powerTerms(n int) []int { return append(make([]int, n), 1) }

func times(m modelPolys, first, second []int) []int {
	products := make([]int, m.size)
	for x := range products {
		products[x] = m.products[first[x]][second[x]]
	}
	return products
}

// dicksonTables has the tables of D(0), .., D(400).
func (m modelPolys) dicksonTables(a int) [][]int {
	x := identityTable(m.size)
	tables := [][]int{slices.Repeat([]int{m.sums[1][1]}, m.size), x}
	for n := 2; n <= 400; n++ {
		table := times(m, x, tables[n-1])
		for y := range table {
			table[y] = m.less(table[y], m.products[a][tables[n-2][y]])
		}
		tables = append(tables, table)
	}
	return tables
}

// dicksonNumbers has the whole numbers n / (n - i) times n - i over i: they are those of (-a)^i x^(n - 2i) in D(n), n at least 1.
func dicksonNumbers(n int) []*big.Int {
	var numbers []*big.Int
	for i := 0; 2*i <= n; i++ {
		number := new(big.Int).Binomial(int64(n-i), int64(i))
		number.Mul(number, big.NewInt(int64(n)))
		numbers = append(numbers, number.Div(number, big.NewInt(int64(n-i))))
	}
	return numbers
}

// dicksonTerms are not reduced.
func (m modelPolys) dicksonTerms(prime, n, a int, numbers []*big.Int) []int {
	if n == 0 {
		return []int{m.sums[1][1]}
	}
	terms, power := make([]int, n+1), 1
	for i, number := range numbers {
		c := int(new(big.Int).Mod(number, big.NewInt(int64(prime))).Int64())
		terms[n-2*i] = m.products[c][power]
		power = m.products[power][m.less(0, a)]
	}
	return terms
}

func (m modelPolys) rootsOfUnity(d int) []int {
	var roots []int
	for x := range m.size {
		if m.power(x, d) == 1 {
			roots = append(roots, x)
		}
	}
	return roots
}

// indexedTerms are x^r times h at x^s, not reduced.
func indexedTerms(r, s int, h []int) []int {
	terms := make([]int, r+s*len(h)+1)
	for i, c := range h {
		terms[r+s*i] = c
	}
	return terms
}

// indexedFaults tells which of the conditions of IndexedPermutes fail: a common divisor, a value 0, two equal values.
func (m modelPolys) indexedFaults(r, s int, h []int) (divisor, zero, equal bool) {
	var values []int
	for _, y := range m.rootsOfUnity((m.size - 1) / s) {
		values = append(values, m.products[m.power(y, r)][m.power(m.valueAt(h, y), s)])
	}
	slices.Sort(values)
	return shareDivisor(r, s), slices.Contains(values, 0), len(slices.Compact(slices.Clone(values))) < len(values)
}

// indexOf is for polynomials other than 0: it tries the divisors of q - 1 from the greatest one.
func indexOf(q int, f []int) (r, s int, h []int) {
	for f[r] == 0 {
		r++
	}
	divisors := divisorsOf(q - 1)
	slices.Reverse(divisors)
	for _, s := range divisors {
		h, rest := []int{}, false
		for k := r; k < len(f); k++ {
			if (k-r)%s == 0 {
				h = append(h, f[k])
			} else if f[k] != 0 {
				rest = true
			}
		}
		if !rest {
			return r, s, withoutZeros(h)
		}
	}
	return 0, 0, nil
}

// squares are the products of elements other than 0 with themselves.
func (m modelPolys) squares() []int {
	var squares []int
	for x := 1; x < m.size; x++ {
		squares = append(squares, m.products[x][x])
	}
	return squares
}

func (m modelPolys) squareWays(a, b int) []int {
	table := make([]int, m.size)
	for x := 1; x < m.size; x++ {
		table[x] = m.products[b][x]
		if slices.Contains(m.squares(), x) {
			table[x] = m.products[a][x]
		}
	}
	return table
}

func oddSizes() []int {
	return slices.DeleteFunc(slices.Clone(sizes), func(q int) bool { return q%2 == 0 })
}

func evenSizes() []int {
	return slices.DeleteFunc(slices.Clone(sizes), func(q int) bool { return q%2 == 1 })
}
