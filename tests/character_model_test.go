package tests

import "slices"

// The model of chapter 8 searches for roots, points and divisors. It tells how many factors two polynomials share by the rank of a system of equations, without dividing.

func (m modelPolys) character(a int) int {
	switch {
	case a == 0:
		return 0
	case slices.Contains(m.squares(), a):
		return 1
	}
	return -1
}

func (m modelPolys) characterSum(table []int) int {
	sum := 0
	for _, value := range table {
		sum += m.character(value)
	}
	return sum
}

// pointsWith has all x, y for which the product of a factor and y y is the value at x.
func (m modelPolys) pointsWith(factor int, table []int) [][]int {
	var points [][]int
	for x := range m.size {
		for y := range m.size {
			if m.products[factor][m.products[y][y]] == table[x] {
				points = append(points, []int{x, y})
			}
		}
	}
	return points
}

// leastOther is the least element with the character -1.
func (m modelPolys) leastOther() int {
	n := 0
	for m.character(n) != -1 {
		n++
	}
	return n
}

// multiple adds an element to itself.
func (m modelPolys) multiple(k, a int) int {
	sum := 0
	for range k {
		sum = m.sums[sum][a]
	}
	return sum
}

func (m modelPolys) derivative(f []int) []int {
	var terms []int
	for k, c := range f {
		if k > 0 {
			terms = append(terms, m.multiple(k, c))
		}
	}
	return withoutZeros(terms)
}

// plainTimes does not reduce the product.
func (m modelPolys) plainTimes(f, g []int) []int {
	terms := make([]int, len(f)+len(g))
	for i, a := range f {
		for j, b := range g {
			terms[i+j] = m.sums[terms[i+j]][m.products[a][b]]
		}
	}
	return withoutZeros(terms)
}

func (m modelPolys) plainPlus(f, g []int) []int {
	terms := make([]int, max(len(f), len(g)))
	copy(terms, f)
	for i, b := range g {
		terms[i] = m.sums[terms[i]][b]
	}
	return withoutZeros(terms)
}

// rank makes zeros below each first entry, row by row; it changes the rows.
func (m modelPolys) rank(rows [][]int) int {
	rank := 0
	for column := 0; rank < len(rows) && column < len(rows[0]); column++ {
		found := slices.IndexFunc(rows[rank:], func(row []int) bool { return row[column] != 0 })
		if found < 0 {
			continue
		}
		rows[rank], rows[rank+found] = rows[rank+found], rows[rank]
		inverse := m.inverse(rows[rank][column])
		for _, row := range rows[rank+1:] {
			factor := m.products[row[column]][inverse]
			for i, a := range rows[rank] {
				row[i] = m.less(row[i], m.products[factor][a])
			}
		}
		rank++
	}
	return rank
}

// sharedDegree is for polynomials of which not both are 0. The multiples of f by lesser powers than the degree of g, and those of g likewise, are as many less than these powers as the degree of the common factor.
func (m modelPolys) sharedDegree(f, g []int) int {
	if len(f) == 0 || len(g) == 0 {
		return max(len(f), len(g)) - 1
	}
	width := len(f) + len(g) - 2
	var rows [][]int
	moved := func(h []int, count int) {
		for i := range count {
			row := make([]int, width)
			copy(row[i:], h)
			rows = append(rows, row)
		}
	}
	moved(f, len(g)-1)
	moved(g, len(f)-1)
	return width - m.rank(rows)
}

// hasNoSquare goes by the definition of the document; TestNoSquareDividesPolysWithoutSquares searches for the squares.
func (m modelPolys) hasNoSquare(f []int) bool {
	return len(f) > 0 && m.sharedDegree(f, m.derivative(f)) == 0
}

// monicPolys have the degree and the coefficient 1 there.
func monicPolys(q, degree int) [][]int {
	var polys [][]int
	for _, list := range allLists(q, degree) {
		polys = append(polys, append(list, 1))
	}
	return polys
}

// monicDivisors has for the number of each polynomial other than 0 all divisors with the last coefficient 1, for small sizes: it goes through all products that are no longer than q.
func (m modelPolys) monicDivisors() map[int][][]int {
	divisors := map[int][][]int{}
	for degree := range m.size {
		for _, h := range monicPolys(m.size, degree) {
			for _, list := range allLists(m.size, m.size-degree) {
				if f := m.plainTimes(h, withoutZeros(list)); len(f) > 0 {
					divisors[numberOf(m.size, f)] = append(divisors[numberOf(m.size, f)], h)
				}
			}
		}
	}
	return divisors
}

// greatestShared returns the divisors with the greatest degree that are in both lists.
func greatestShared(first, second [][]int) [][]int {
	var shared [][]int
	for _, h := range first {
		if !slices.ContainsFunc(second, func(g []int) bool { return slices.Equal(g, h) }) {
			continue
		}
		switch {
		case len(shared) == 0 || len(h) > len(shared[0]):
			shared = [][]int{h}
		case len(h) == len(shared[0]):
			shared = append(shared, h)
		}
	}
	return shared
}

func (m *mixer) poly(q, terms int) []int {
	f := m.list(q, terms)
	if terms > 0 {
		f[terms-1] = 1 + m.below(q-1)
	}
	return f
}

// splitPolys are products of different x - a, one of each number of factors, and such with an element as a further factor.
func splitPolys(q int) [][]int {
	m, mix := modelPolysOfSize(q), mixer(q)
	f := []int{1}
	polys := [][]int{f}
	for _, a := range mix.permutation(q)[1:] {
		f = m.plainTimes(f, []int{m.less(0, a), 1})
		polys = append(polys, f, m.plainTimes(f, []int{q - 1}))
	}
	return polys
}

// squaredPolys are products of a polynomial of at least 1 as degree with itself and with another one.
func squaredPolys(q, count int) [][]int {
	m, mix := modelPolysOfSize(q), mixer(q)
	var polys [][]int
	for i := range count {
		if q < 3 {
			break
		}
		h := mix.poly(q, 2+i%((q-1)/2))
		room := q - 2*(len(h)-1)
		polys = append(polys, m.plainTimes(m.plainTimes(h, h), mix.poly(q, 1+mix.below(room))))
	}
	return polys
}

// binomials are x^n with each of some elements added.
func binomials(q int) [][]int {
	var polys [][]int
	for n := 1; n < q; n++ {
		for _, c := range []int{0, 1, q - 1} {
			f := powerTerms(n)
			f[0] = c
			polys = append(polys, f)
		}
	}
	return polys
}

// factoredPolys has all polynomials where these are not too many, and otherwise such with factors of many kinds. Additive ones have constant derivatives, some of them 0.
func factoredPolys(q int) [][]int {
	if q <= 5 {
		return manyPolys(q)
	}
	return slices.Concat(manyPolys(q), splitPolys(q), squaredPolys(q, 40), binomials(q), allButMost(additivePolys(q)))
}

// sharingPairs have a factor of each degree in common, and maybe more. The first one of a pair may be 0.
func sharingPairs(q, count int) [][2][]int {
	m, mix := modelPolysOfSize(q), mixer(q)
	var pairs [][2][]int
	for i := range count {
		h := mix.poly(q, 1+i%q)
		room := q - len(h) + 1
		pairs = append(pairs, [2][]int{
			m.plainTimes(h, mix.poly(q, mix.below(room+1))),
			m.plainTimes(h, mix.poly(q, 1+mix.below(room))),
		})
	}
	return pairs
}
