package tests

// The model of polynomials follows the definitions of chapter 2 term by term, over the model of fields.

type modelPolys struct {
	size           int
	sums, products [][]int
}

func modelPolysOf(q int) modelPolys {
	m := modelPolys{size: q}
	f := modelOf(q)
	for a := range q {
		var sums, products []int
		for b := range q {
			sums = append(sums, f.plus(a, b))
			products = append(products, f.times(a, b))
		}
		m.sums = append(m.sums, sums)
		m.products = append(m.products, products)
	}
	return m
}

func (m modelPolys) power(a, k int) int {
	product := 1
	for range k {
		product = m.products[product][a]
	}
	return product
}

// valueAt takes terms of any power: they need not be reduced.
func (m modelPolys) valueAt(terms []int, x int) int {
	sum, power := 0, 1
	for _, c := range terms {
		sum = m.sums[sum][m.products[c][power]]
		power = m.products[power][x]
	}
	return sum
}

func (m modelPolys) table(terms []int) []int {
	var values []int
	for x := range m.size {
		values = append(values, m.valueAt(terms, x))
	}
	return values
}

// reduced tells at once at which power a coefficient ends.
func (m modelPolys) reduced(terms []int) []int {
	list := make([]int, m.size)
	for k, c := range terms {
		if k >= m.size {
			k = (k-1)%(m.size-1) + 1
		}
		list[k] = m.sums[list[k]][c]
	}
	return withoutZeros(list)
}

func withoutZeros(list []int) []int {
	for len(list) > 0 && list[len(list)-1] == 0 {
		list = list[:len(list)-1]
	}
	return list
}

// mixer gives numbers without an evident order, the same ones in each run.
type mixer uint64

func (m *mixer) below(n int) int {
	*m = *m*6364136223846793005 + 1442695040888963407
	return int(*m>>33) % n
}

func (m *mixer) list(q, n int) []int {
	list := make([]int, n)
	for i := range list {
		list[i] = m.below(q)
	}
	return list
}

// allLists has each list of n elements once, the first place changing fastest.
func allLists(q, n int) [][]int {
	var lists [][]int
	for number := range power(q, n) {
		lists = append(lists, digitList(q, n, number))
	}
	return lists
}

// somePolys has the polynomial 0, and of each number of coefficients up to q the power of x alone, one with the greatest elements, and others.
func somePolys(q, others int) [][]int {
	mix := mixer(q)
	polys := [][]int{nil}
	for n := 1; n <= q; n++ {
		alone, greatest := make([]int, n), make([]int, n)
		for i := range greatest {
			greatest[i] = q - 1
		}
		alone[n-1] = 1
		polys = append(polys, alone, greatest)
		for range others {
			f := mix.list(q, n)
			f[n-1] = 1 + mix.below(q-1)
			polys = append(polys, f)
		}
	}
	return polys
}

// manyPolys has all polynomials where these are not too many.
func manyPolys(q int) [][]int {
	if q > 5 {
		return somePolys(q, 8)
	}
	var polys [][]int
	for _, list := range allLists(q, q) {
		polys = append(polys, withoutZeros(list))
	}
	return polys
}

// manyTables has all tables where these are not too many, and otherwise constant ones, those with one value other than 0, and others.
func manyTables(q int) [][]int {
	if q <= 5 {
		return allLists(q, q)
	}
	mix := mixer(q)
	var tables [][]int
	for a := range q {
		single, constant, move := make([]int, q), make([]int, q), make([]int, q)
		single[a] = 1 + mix.below(q-1)
		for x := range q {
			constant[x] = a
			move[x] = (x + a) % q
		}
		tables = append(tables, single, constant, move)
	}
	for range 100 {
		tables = append(tables, mix.list(q, q))
	}
	return tables
}
