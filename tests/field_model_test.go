package tests

import "slices"

// The model follows the definitions of the chapter with lists of digits and long division, apart from the program's own ways.

type modelField struct {
	size, prime, places int
	modulus             []int
}

// modelOf searches for the prime, and for the modulus among all products of two with lesser degrees.
func modelOf(q int) modelField {
	m := modelField{size: q}
	for p := 2; p <= q; p++ {
		for k, power := 1, p; power <= q; k, power = k+1, power*p {
			if power == q && m.prime == 0 {
				m.prime, m.places = p, k
			}
		}
	}
	m.modulus = firstIrreducible(m.prime, m.places)
	return m
}

func firstIrreducible(p, k int) []int {
	var products [][]int
	for d := 1; d <= k/2; d++ {
		for a := range power(p, d) {
			for b := range power(p, k-d) {
				products = append(products, plainProduct(p, append(digitList(p, d, a), 1), append(digitList(p, k-d, b), 1)))
			}
		}
	}
	for n := 0; ; n++ {
		f := append(digitList(p, k, n), 1)
		if !slices.ContainsFunc(products, func(g []int) bool { return slices.Equal(f, g) }) {
			return f
		}
	}
}

func power(a, k int) int {
	n := 1
	for range k {
		n *= a
	}
	return n
}

func digitList(p, k, a int) []int {
	var list []int
	for range k {
		list = append(list, a%p)
		a /= p
	}
	return list
}

func plainProduct(p int, f, g []int) []int {
	product := make([]int, len(f)+len(g)-1)
	for i, a := range f {
		for j, b := range g {
			product[i+j] = (product[i+j] + a*b) % p
		}
	}
	return product
}

func numberOf(p int, list []int) int {
	n := 0
	for i := len(list) - 1; i >= 0; i-- {
		n = n*p + list[i]
	}
	return n
}

func (m modelField) digits(a int) []int { return digitList(m.prime, m.places, a) }

func (m modelField) plus(a, b int) int {
	sum := m.digits(a)
	for i, d := range m.digits(b) {
		sum[i] = (sum[i] + d) % m.prime
	}
	return numberOf(m.prime, sum)
}

func (m modelField) times(a, b int) int {
	if m.places == 1 {
		return a * b % m.prime
	}
	product := plainProduct(m.prime, m.digits(a), m.digits(b))
	for i := len(product) - 1; i >= m.places; i-- {
		top := product[i]
		for j, c := range m.modulus {
			at := i - m.places + j
			product[at] = ((product[at]-top*c)%m.prime + m.prime) % m.prime
		}
	}
	return numberOf(m.prime, product[:m.places])
}

func (m modelField) power(a, k int) int {
	product := 1
	for range k {
		product = m.times(product, a)
	}
	return product
}

func (m modelField) order(a int) int {
	k := 1
	for power := a; power != 1; power = m.times(power, a) {
		k++
	}
	return k
}

// conjugates are a to the powers 1, p, .., p^(k - 1), made one by one.
func (m modelField) conjugates(a int) []int {
	var list []int
	for i := range m.places {
		list = append(list, m.power(a, power(m.prime, i)))
	}
	return list
}
