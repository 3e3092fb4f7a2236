package tests

import (
	"math/big"
	"slices"
)

// The model of chapter 5 looks through tables, once for each element, and counts maps by inclusion and exclusion in whole numbers.

func placesIn(table []int, y int) []int {
	var places []int
	for x, value := range table {
		if value == y {
			places = append(places, x)
		}
	}
	return places
}

func placeCountsIn(table []int) []int {
	var counts []int
	for y := range table {
		counts = append(counts, len(placesIn(table, y)))
	}
	return counts
}

func differentIn(list []int) []int { return slices.Compact(slices.Sorted(slices.Values(list))) }

func pairsAlikeIn(table []int) int {
	pairs := 0
	for b := range table {
		for a := range b {
			if table[a] == table[b] {
				pairs++
			}
		}
	}
	return pairs
}

// isTwoToOne leaves out the elements that are no values: of the others the first one alone, with the fewest places, may have one.
func isTwoToOne(table []int) bool {
	counts := slices.DeleteFunc(placeCountsIn(table), func(n int) bool { return n == 0 })
	slices.Sort(counts)
	if counts[0] == 1 {
		counts = counts[1:]
	}
	return !slices.ContainsFunc(counts, func(n int) bool { return n != 2 })
}

func hasLoneValue(table []int) bool { return slices.Contains(placeCountsIn(table), 1) }

// powersOfAll has the powers 0, 1, .., last of all elements, made one by one.
func (m modelPolys) powersOfAll(last int) [][]int {
	powers := [][]int{slices.Repeat([]int{1}, m.size)}
	for k := range last {
		powers = append(powers, times(m, powers[k], identityTable(m.size)))
	}
	return powers
}

// momentOf adds up the powers of the values of all x, for a row of powersOfAll.
func (m modelPolys) momentOf(table, powers []int) int {
	sum := 0
	for _, y := range table {
		sum = m.sums[sum][powers[y]]
	}
	return sum
}

// firstMomentOf looks at all powers that it is given, far more than there are different ones.
func (m modelPolys) firstMomentOf(table []int, powers [][]int) (int, bool) {
	for k := 1; k < len(powers); k++ {
		if m.momentOf(table, powers[k]) != 0 {
			return k, true
		}
	}
	return 0, false
}

// countsByValues looks at all polynomials of a degree.
func (m modelPolys) countsByValues(degree int) []int {
	counts := make([]int, m.size+1)
	for number := power(m.size, degree); number < power(m.size, degree+1); number++ {
		f := digitList(m.size, degree+1, number)
		counts[len(differentIn(m.table(f)))]++
	}
	return counts
}

// mapsWith takes, for each set of k elements, from the maps into it those into a part of it.
func mapsWith(q, k int) *big.Int {
	sum := new(big.Int)
	for i := range k + 1 {
		maps := new(big.Int).Exp(big.NewInt(int64(k-i)), big.NewInt(int64(q)), nil)
		maps.Mul(maps, new(big.Int).Binomial(int64(k), int64(i)))
		if i%2 == 1 {
			maps.Neg(maps)
		}
		sum.Add(sum, maps)
	}
	return sum.Mul(sum, new(big.Int).Binomial(int64(q), int64(k)))
}

// sharesOf has all lists of numbers in 1..most with a sum, none of which is followed by a greater one.
func sharesOf(sum, most int) [][]int {
	if sum == 0 {
		return [][]int{nil}
	}
	var all [][]int
	for first := min(sum, most); first > 0; first-- {
		for _, rest := range sharesOf(sum-first, first) {
			all = append(all, append([]int{first}, rest...))
		}
	}
	return all
}

// tableWithShares gives to as many values as there are shares their numbers of places, in orders of the mixer.
func (m *mixer) tableWithShares(q int, shares []int) []int {
	table, places, elements := make([]int, q), m.permutation(q), m.permutation(q)
	for i, n := range shares {
		for _, x := range places[:n] {
			table[x] = elements[i]
		}
		places = places[n:]
	}
	return table
}

// tablesOfAllShares has each way in which the values may share all places.
func tablesOfAllShares(q int) [][]int {
	mix := mixer(q)
	var tables [][]int
	for _, shares := range sharesOf(q, q) {
		tables = append(tables, mix.tableWithShares(q, shares))
	}
	return tables
}

// manySets has all sets of elements where these are not too many, and otherwise none, single ones, beginnings, ends, all but one, and others.
func manySets(q int) [][]int {
	if q <= 8 {
		var sets [][]int
		for number := range power(2, q) {
			sets = append(sets, placesIn(digitList(2, q, number), 1))
		}
		return sets
	}
	mix, all := mixer(q), identityTable(q)
	sets := [][]int{nil, all}
	for a := range q {
		sets = append(sets, []int{a}, all[:a], all[a:], slices.Delete(slices.Clone(all), a, a+1))
	}
	for range 60 {
		sets = append(sets, placesIn(mix.list(2, q), 1))
	}
	return sets
}
