package tests

import "slices"

// The model of chapter 3 works with tables alone: a permutation is a table with each element once.

func identityTable(q int) []int {
	table := make([]int, q)
	for x := range table {
		table[x] = x
	}
	return table
}

func isPermutation(table []int) bool {
	sorted := slices.Sorted(slices.Values(table))
	return slices.Equal(sorted, identityTable(len(table)))
}

// clashOf looks at the pairs in lexicographic order.
func clashOf(table []int) (int, int, bool) {
	for a := range table {
		for b := range table {
			if a < b && table[a] == table[b] {
				return a, b, true
			}
		}
	}
	return 0, 0, false
}

func inverseTable(table []int) []int {
	back := make([]int, len(table))
	for x, y := range table {
		back[y] = x
	}
	return back
}

func joinedTable(outer, inner []int) []int {
	var joined []int
	for _, y := range inner {
		joined = append(joined, outer[y])
	}
	return joined
}

// cyclesOf starts a cycle at each element that is in no earlier one.
func cyclesOf(table []int) [][]int {
	var cycles [][]int
	met := make([]bool, len(table))
	for start := range table {
		var cycle []int
		for x := start; !met[x]; x = table[x] {
			met[x] = true
			cycle = append(cycle, x)
		}
		if cycle != nil {
			cycles = append(cycles, cycle)
		}
	}
	return cycles
}

// orderOf makes the map until it leads each element to itself.
func orderOf(table []int) int {
	k := 1
	for reached := table; !slices.Equal(reached, identityTable(len(table))); k++ {
		reached = joinedTable(table, reached)
	}
	return k
}

// signOf counts the pairs that change their order, apart from the cycles.
func signOf(table []int) int {
	sign := 1
	for a := range table {
		for b := range a {
			if table[b] > table[a] {
				sign = -sign
			}
		}
	}
	return sign
}

// tableWithCycles has cycles of the given lengths on the elements in an order of the mixer.
func (m *mixer) tableWithCycles(q int, lengths ...int) []int {
	table, places := identityTable(q), m.permutation(q)
	for _, n := range lengths {
		for i := range n {
			table[places[i]] = places[(i+1)%n]
		}
		places = places[n:]
	}
	return table
}

func (m *mixer) permutation(n int) []int {
	list := identityTable(n)
	for i := n - 1; i > 0; i-- {
		j := m.below(i + 1)
		list[i], list[j] = list[j], list[i]
	}
	return list
}

// allPermutations puts the element n - 1 at each place of those of n - 1.
func allPermutations(n int) [][]int {
	if n == 0 {
		return [][]int{nil}
	}
	var all [][]int
	for _, shorter := range allPermutations(n - 1) {
		for i := range n {
			all = append(all, slices.Insert(slices.Clone(shorter), i, n-1))
		}
	}
	return all
}

// manyPermutations has all of them where these are not too many, and otherwise the identity, moves, single cycles of each length, pairs of cycles, and others.
func manyPermutations(q int) [][]int {
	if q <= 5 {
		return allPermutations(q)
	}
	mix := mixer(q)
	tables := [][]int{identityTable(q)}
	for a := 1; a < q; a++ {
		move := make([]int, q)
		for x := range move {
			move[x] = (x + a) % q
		}
		tables = append(tables, move, mix.tableWithCycles(q, a+1), mix.tableWithCycles(q, a, q-a), mix.permutation(q))
	}
	backwards := identityTable(q)
	slices.Reverse(backwards)
	return append(tables, backwards, mix.permutation(q), mix.permutation(q))
}

// tablesWithClashes has for each pair of elements a table in which these alone clash, and one in which another pair behind does, too.
func tablesWithClashes(q int) [][]int {
	mix := mixer(q)
	var tables [][]int
	for b := range q {
		for a := range b {
			one := mix.permutation(q)
			one[b] = one[a]
			two := slices.Clone(one)
			two[mix.below(q)] = two[mix.below(q)]
			tables = append(tables, one, two)
		}
	}
	return tables
}

func (m modelPolys) powerSum(table []int, k int) int {
	sum := 0
	for _, y := range table {
		sum = m.sums[sum][m.power(y, k)]
	}
	return sum
}

// moved has the coefficients of f at x + b, made by Horner's rule from the products with x + b.
func (m modelPolys) moved(f []int, b int) []int {
	result := make([]int, len(f))
	for i := len(f) - 1; i >= 0; i-- {
		for j := len(f) - 1; j >= 0; j-- {
			lower := 0
			if j > 0 {
				lower = result[j-1]
			}
			result[j] = m.sums[lower][m.products[b][result[j]]]
		}
		result[0] = m.sums[result[0]][f[i]]
	}
	return result
}

func (m modelPolys) isNormal(f []int) bool {
	d := len(f) - 1
	if d < 1 || f[d] != 1 || f[0] != 0 {
		return false
	}
	return d%modelOf(m.size).prime == 0 || f[d-1] == 0
}

// normalsOf has the different normal ones among all a f(x + b) + c, for f of at least 1 as degree.
func (m modelPolys) normalsOf(f []int) [][]int {
	var found [][]int
	for b := range m.size {
		if b != 0 && (len(f)-1)%modelOf(m.size).prime == 0 {
			break
		}
		moved := m.moved(f, b)
		for a := range m.size {
			form := make([]int, len(f))
			for i := range form {
				form[i] = m.products[a][moved[i]]
			}
			// There is one c alone with which the value at 0 is 0.
			form[0] = 0
			if m.isNormal(form) && !slices.ContainsFunc(found, func(g []int) bool { return slices.Equal(form, g) }) {
				found = append(found, form)
			}
		}
	}
	return found
}
