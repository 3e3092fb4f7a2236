package tests

import "slices"

// The model of chapter 7 takes differences from tables, element by element, and repeated values by trying all lists.

func (m modelPolys) difference(table []int, a int) []int {
	var values []int
	for x, y := range table {
		values = append(values, m.less(table[m.sums[x][a]], y))
	}
	return values
}

// allDifferenceCounts has those of the differences by 1, 2, .., one behind the other.
func (m modelPolys) allDifferenceCounts(table []int) []int {
	var all []int
	for a := 1; a < m.size; a++ {
		all = append(all, placeCountsIn(m.difference(table, a))...)
	}
	return all
}

func spreadOf(q int, counts []int) []int {
	var spread []int
	for k := range q + 1 {
		spread = append(spread, len(placesIn(counts, k)))
	}
	return spread
}

func (m modelPolys) isPlanar(table []int) bool {
	for a := 1; a < m.size; a++ {
		if !isPermutation(m.difference(table, a)) {
			return false
		}
	}
	return true
}

func (m modelPolys) isAlmostPerfect(table []int) bool {
	return !slices.ContainsFunc(m.allDifferenceCounts(table), func(n int) bool { return n != 0 && n != 2 })
}

// isBest is planar over odd fields and almost perfect over even ones.
func (m modelPolys) isBest(table []int) bool {
	if m.size%2 == 1 {
		return m.isPlanar(table)
	}
	return m.isAlmostPerfect(table)
}

// firstRepeated goes through all a, x and x' in lexicographic order.
func (m modelPolys) firstRepeated(table []int) []int {
	for a := 1; a < m.size; a++ {
		values := m.difference(table, a)
		for x := range m.size {
			for y := range m.size {
				pair := m.size%2 == 0 && y == m.sums[x][a]
				if x < y && values[x] == values[y] && !pair {
					return []int{a, x, y}
				}
			}
		}
	}
	return nil
}

// movedTable has w times the value at u x + v, and z x more.
func (m modelPolys) movedTable(table []int, u, v, w, z int) []int {
	var moved []int
	for x := range m.size {
		value := table[m.sums[m.products[u][x]][v]]
		moved = append(moved, m.sums[m.products[w][value]][m.products[z][x]])
	}
	return moved
}

// powerPolys has each power with the greatest degree q - 1, alone and with another factor.
func powerPolys(q int) [][]int {
	var polys [][]int
	for n := range q {
		other := powerTerms(n)
		other[n] = q - 1
		polys = append(polys, powerTerms(n), other)
	}
	return polys
}

// sumPowerTerms are x^(p^i + 1), not reduced.
func sumPowerTerms(q, i int) []int { return powerTerms(power(modelOf(q).prime, i) + 1) }

// bestPolys has such of each size that are planar or almost perfect: powers, with multiples of x and elements added.
func bestPolys(q int) [][]int {
	m, mix := modelPolysOfSize(q), mixer(q)
	var polys [][]int
	for n := range q {
		if !m.isBest(m.table(powerTerms(n))) {
			continue
		}
		for range 3 {
			terms := append(powerTerms(n), 0, 0)
			terms[n] = 1 + mix.below(q-1)
			terms[0], terms[1] = m.sums[terms[0]][mix.below(q)], m.sums[terms[1]][mix.below(q)]
			polys = append(polys, m.reduced(terms))
		}
	}
	return polys
}

// quadraticPolys have sums of two powers of the prime as powers, besides additive terms: their differences have each value equally often.
func quadraticPolys(q, count int) [][]int {
	m, mix, powers := modelPolysOfSize(q), mixer(q), primePowers(q)
	var polys [][]int
	for range count {
		terms := make([]int, 2*q+1)
		terms[0] = mix.below(q)
		for i, first := range powers {
			for _, second := range powers[i:] {
				terms[first+second] = mix.below(2) * mix.below(q)
			}
			terms[first] = m.sums[terms[first]][mix.below(q)]
		}
		polys = append(polys, m.reduced(terms))
	}
	return polys
}

// changedTables are those of best polynomials with one other value: only some differences repeat a value then.
func changedTables(q int) [][]int {
	m, mix := modelPolysOfSize(q), mixer(q)
	var tables [][]int
	for _, f := range allButMost(bestPolys(q)) {
		for range 4 {
			table := m.table(f)
			x := mix.below(q)
			table[x] = m.sums[table[x]][1+mix.below(q-1)]
			tables = append(tables, table)
		}
	}
	return tables
}

// steppedTable has a difference by 1 that repeats no value, so that the first one that does so is by a greater element.
// Adding 1 leads back to the start after p steps, so that these add up to 0: over odd fields they are all elements that are part p and one of 0..p - 1 together, over even ones the same element twice.
func (m modelPolys) steppedTable(mix *mixer) []int {
	p := modelOf(m.size).prime
	table := make([]int, m.size)
	for i, part := range mix.permutation(m.size / p) {
		steps, start := mix.permutation(p), i*p
		table[start] = mix.below(m.size)
		for j := range p - 1 {
			table[start+j+1] = m.sums[table[start+j]][part*p+steps[j]]
		}
	}
	return table
}

func steppedTables(q, count int) [][]int {
	m, mix := modelPolysOfSize(q), mixer(q)
	var tables [][]int
	for range count {
		tables = append(tables, m.steppedTable(&mix))
	}
	return tables
}
