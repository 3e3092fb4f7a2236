package impl

const MaxSize = 16

// maxPlaces suffices for every size: none up to MaxSize is a higher power of a prime than 16, which is 2^4.
const maxPlaces = 4

// digits has the least place first. Places that a field does not have stay 0, so that comparing whole arrays compares elements.
type digits [maxPlaces]int

type field struct {
	size, prime, places int
}

// element carries its field, so that elements are equal exactly if the structs are, and sums and products need no further argument.
type element struct {
	field  field
	digits digits
}

// fieldOf divides q by its least divisor alone: another prime left over tells that q is no power of one.
func fieldOf(q int) (field, bool) {
	if q < 2 || q > MaxSize {
		return field{}, false
	}
	p := 2
	for q%p != 0 {
		p++
	}
	places, rest := 0, q
	for rest%p == 0 {
		places++
		rest /= p
	}
	if rest != 1 {
		return field{}, false
	}
	return field{size: q, prime: p, places: places}, true
}

// modulus gives x for the fields with one place: elements are constants there, so that it changes no product.
func (f field) modulus() [maxPlaces + 1]int {
	switch f.size {
	case 4:
		return [maxPlaces + 1]int{1, 1, 1}
	case 8:
		return [maxPlaces + 1]int{1, 1, 0, 1}
	case 9:
		return [maxPlaces + 1]int{1, 0, 1}
	case 16:
		return [maxPlaces + 1]int{1, 1, 0, 0, 1}
	}
	return [maxPlaces + 1]int{0, 1}
}

func (f field) has(a int) bool { return 0 <= a && a < f.size }

func (f field) element(number int) element {
	e := element{field: f}
	for i := range f.places {
		e.digits[i] = number % f.prime
		number /= f.prime
	}
	return e
}

func (f field) zero() element { return f.element(0) }

func (f field) one() element { return f.element(1) }

// elements returns all elements in the order of their numbers.
func (f field) elements() []element {
	all := make([]element, f.size)
	for a := range all {
		all[a] = f.element(a)
	}
	return all
}

// numbersWhere returns the numbers of the elements that have a property, increasing.
func (f field) numbersWhere(has func(element) bool) []int {
	var found []int
	for a, e := range f.elements() {
		if has(e) {
			found = append(found, a)
		}
	}
	return found
}

// firstPrimitive always finds one: every finite field has a primitive element.
func (f field) firstPrimitive() element {
	a := 1
	for !f.element(a).isPrimitive() {
		a++
	}
	return f.element(a)
}

func (e element) number() int {
	n := 0
	for i := e.field.places - 1; i >= 0; i-- {
		n = n*e.field.prime + e.digits[i]
	}
	return n
}

// digitList leaves out the places that the field does not have.
func (e element) digitList() []int { return append([]int(nil), e.digits[:e.field.places]...) }

func (e element) isZero() bool { return e.digits == digits{} }

func (e element) plus(other element) element {
	for i := range e.field.places {
		e.digits[i] = (e.digits[i] + other.digits[i]) % e.field.prime
	}
	return e
}

func (e element) negated() element {
	for i := range e.field.places {
		e.digits[i] = (e.field.prime - e.digits[i]) % e.field.prime
	}
	return e
}

func (e element) minus(other element) element { return e.plus(other.negated()) }

// scaled returns the sum of c times the element.
func (e element) scaled(c int) element {
	for i := range e.field.places {
		e.digits[i] = c * e.digits[i] % e.field.prime
	}
	return e
}

// timesX moves each digit up a place. What leaves the last place is x^k times a digit, where the modulus makes x^k the negative of its other terms.
func (e element) timesX() element {
	p, k := e.field.prime, e.field.places
	modulus := e.field.modulus()
	top := e.digits[k-1]
	for i := k - 1; i >= 0; i-- {
		lower := 0
		if i > 0 {
			lower = e.digits[i-1]
		}
		e.digits[i] = (lower + top*(p-modulus[i])) % p
	}
	return e
}

func (e element) times(other element) element {
	product := e.field.zero()
	for i := e.field.places - 1; i >= 0; i-- {
		product = product.timesX().plus(other.scaled(e.digits[i]))
	}
	return product
}

// power returns the power k, k of at least 0, by squaring.
func (e element) power(k int) element {
	product := e.field.one()
	for ; k > 0; k /= 2 {
		if k%2 == 1 {
			product = product.times(e)
		}
		e = e.times(e)
	}
	return product
}

// inverse is for elements other than 0: their power q - 1 is 1.
func (e element) inverse() element { return e.power(e.field.size - 2) }

// order is for elements other than 0.
func (e element) order() int {
	one := e.field.one()
	k := 1
	for power := e; power != one; power = power.times(e) {
		k++
	}
	return k
}

func (e element) isPrimitive() bool { return !e.isZero() && e.order() == e.field.size-1 }

func (e element) isSquare() bool {
	for _, root := range e.field.elements() {
		if root.times(root) == e {
			return true
		}
	}
	return false
}

// conjugates returns all k powers, equal ones too.
func (e element) conjugates() []element {
	powers := make([]element, e.field.places)
	for i := range powers {
		powers[i] = e
		e = e.power(e.field.prime)
	}
	return powers
}

func (e element) trace() element { return e.field.sumOf(e.conjugates()) }

func elementOf(q int, a int) (element, bool) {
	f, ok := fieldOf(q)
	if !ok || !f.has(a) {
		return element{}, false
	}
	return f.element(a), true
}

// nonzeroOf fails for 0, too.
func nonzeroOf(q int, a int) (element, bool) {
	e, ok := elementOf(q, a)
	if !ok || e.isZero() {
		return element{}, false
	}
	return e, true
}

func pairOf(q int, a int, b int) (element, element, bool) {
	first, okFirst := elementOf(q, a)
	second, okSecond := elementOf(q, b)
	if !okFirst || !okSecond {
		return element{}, element{}, false
	}
	return first, second, true
}

// IsSize reports whether q is a size: one of 2, 3, 4, 5, 7, 8, 9, 11, 13 and 16.
func IsSize(q int) bool {
	_, ok := fieldOf(q)
	return ok
}

// PrimeOf returns the p and k for which q is p^k.
func PrimeOf(q int) (int, int, bool) {
	f, ok := fieldOf(q)
	return f.prime, f.places, ok
}

// ModulusOf returns the coefficients of the modulus, that of 1 first; for k = 1 they are 0 and 1.
func ModulusOf(q int) ([]int, bool) {
	f, ok := fieldOf(q)
	if !ok {
		return nil, false
	}
	modulus := f.modulus()
	return append([]int(nil), modulus[:f.places+1]...), true
}

// DigitsOf returns the k digits of an element, the least place first.
func DigitsOf(q int, a int) ([]int, bool) {
	e, ok := elementOf(q, a)
	if !ok {
		return nil, false
	}
	return e.digitList(), true
}

// PlusOf returns the sum.
func PlusOf(q int, a int, b int) (int, bool) {
	first, second, ok := pairOf(q, a, b)
	if !ok {
		return 0, false
	}
	return first.plus(second).number(), true
}

// LessOf returns the element whose sum with b is a.
func LessOf(q int, a int, b int) (int, bool) {
	first, second, ok := pairOf(q, a, b)
	if !ok {
		return 0, false
	}
	return first.minus(second).number(), true
}

// TimesOf returns the product.
func TimesOf(q int, a int, b int) (int, bool) {
	first, second, ok := pairOf(q, a, b)
	if !ok {
		return 0, false
	}
	return first.times(second).number(), true
}

// InverseOf returns the element whose product with a is 1. It fails for 0.
func InverseOf(q int, a int) (int, bool) {
	e, ok := nonzeroOf(q, a)
	if !ok {
		return 0, false
	}
	return e.inverse().number(), true
}

// PowerOf returns the power k of a, in -1000..1000, where the power 0 is 1. It fails for k less than 0 and a = 0.
func PowerOf(q int, a int, k int) (int, bool) {
	e, ok := elementOf(q, a)
	if !ok || k < -1000 || k > 1000 || k < 0 && e.isZero() {
		return 0, false
	}
	if k < 0 {
		return e.inverse().power(-k).number(), true
	}
	return e.power(k).number(), true
}

// OrderOf returns the least k of at least 1 for which the power k of a is 1. It fails for 0.
func OrderOf(q int, a int) (int, bool) {
	e, ok := nonzeroOf(q, a)
	if !ok {
		return 0, false
	}
	return e.order(), true
}

// FirstPrimitive returns the least element with the order q - 1.
func FirstPrimitive(q int) (int, bool) {
	f, ok := fieldOf(q)
	if !ok {
		return 0, false
	}
	return f.firstPrimitive().number(), true
}

// AllPrimitive returns all elements with the order q - 1, increasing.
func AllPrimitive(q int) ([]int, bool) {
	f, ok := fieldOf(q)
	if !ok {
		return nil, false
	}
	return f.numbersWhere(element.isPrimitive), true
}

// LogOf returns the k in 0..q - 2 for which the power k of FirstPrimitive is a. It fails for 0.
func LogOf(q int, a int) (int, bool) {
	e, ok := nonzeroOf(q, a)
	if !ok {
		return 0, false
	}
	primitive := e.field.firstPrimitive()
	k := 0
	for power := e.field.one(); power != e; power = power.times(primitive) {
		k++
	}
	return k, true
}

// TraceOf returns the sum of the powers 1, p, p^2, .., p^(k - 1) of a: it is one of 0..p - 1.
func TraceOf(q int, a int) (int, bool) {
	e, ok := elementOf(q, a)
	if !ok {
		return 0, false
	}
	return e.trace().number(), true
}

// NormOf returns the product of the powers 1, p, p^2, .., p^(k - 1) of a: it is one of 0..p - 1.
func NormOf(q int, a int) (int, bool) {
	e, ok := elementOf(q, a)
	if !ok {
		return 0, false
	}
	product := e.field.one()
	for _, c := range e.conjugates() {
		product = product.times(c)
	}
	return product.number(), true
}

// ConjugatesOf returns the different ones of the powers 1, p, p^2, .., p^(k - 1) of a, in this order.
func ConjugatesOf(q int, a int) ([]int, bool) {
	e, ok := elementOf(q, a)
	if !ok {
		return nil, false
	}
	var different []int
	for i, c := range e.conjugates() {
		// The powers p go round in a cycle, so that a itself is the first one to come again.
		if i > 0 && c == e {
			break
		}
		different = append(different, c.number())
	}
	return different, true
}

// SubfieldOf returns all elements whose power r is themselves, increasing, for a size r that is p^j where j divides k. It fails for other r.
func SubfieldOf(q int, r int) ([]int, bool) {
	f, ok := fieldOf(q)
	if !ok {
		return nil, false
	}
	within, ok := fieldOf(r)
	if !ok || within.prime != f.prime || f.places%within.places != 0 {
		return nil, false
	}
	return f.numbersWhere(func(e element) bool { return e.power(r) == e }), true
}

// SquaresOf returns all elements that are products of one with itself, increasing.
func SquaresOf(q int) ([]int, bool) {
	f, ok := fieldOf(q)
	if !ok {
		return nil, false
	}
	return f.numbersWhere(element.isSquare), true
}

// SumOfAll returns the sum of the powers k of all elements, k in 0..1000, where 0 to the power 0 is 1.
func SumOfAll(q int, k int) (int, bool) {
	f, ok := fieldOf(q)
	if !ok || k < 0 || k > 1000 {
		return 0, false
	}
	sum := f.zero()
	for _, e := range f.elements() {
		sum = sum.plus(e.power(k))
	}
	return sum.number(), true
}
