package tests

import "slices"

// The model of chapter 9 works with tables and rows alone: it looks for complete tables among all permutations, and for pairs of entries among all places.

// searchedSizes are those up to MaxAllComplete.
var searchedSizes = []int{2, 3, 4, 5, 7, 8}

func (m modelPolys) plusIdentity(table []int) []int { return m.sumsOf(table, identityTable(m.size)) }

func (m modelPolys) isComplete(table []int) bool {
	return isPermutation(table) && isPermutation(m.plusIdentity(table))
}

// fixedPermutations has all of them with the value 0 at 0, in lexicographic order.
func fixedPermutations(q int) [][]int {
	var tables [][]int
	for _, order := range allPermutations(q - 1) {
		table := []int{0}
		for _, y := range order {
			table = append(table, y+1)
		}
		tables = append(tables, table)
	}
	slices.SortFunc(tables, slices.Compare)
	return tables
}

func (m modelPolys) fixedComplete() [][]int {
	return slices.DeleteFunc(fixedPermutations(m.size), func(table []int) bool { return !m.isComplete(table) })
}

func hasTwice(list []int) bool { return len(differentIn(list)) < len(list) }

// searchedComplete puts values at 0, 1, .. in an order of the mixer, and goes back where none suits.
func (m modelPolys) searchedComplete(mix *mixer, begun []int) []int {
	if len(begun) == m.size {
		return begun
	}
	for _, y := range mix.permutation(m.size) {
		longer := append(slices.Clone(begun), y)
		if hasTwice(longer) || hasTwice(m.sumsOf(longer, identityTable(len(longer)))) {
			continue
		}
		if found := m.searchedComplete(mix, longer); found != nil {
			return found
		}
	}
	return nil
}

// builtComplete has the complete ones among all a x, all SquareWays and some additive maps, and others that are searched for.
func (m modelPolys) builtComplete() [][]int {
	mix := mixer(m.size)
	var tables [][]int
	for a := range m.size {
		tables = append(tables, m.table([]int{0, a}))
		for b := range m.size {
			if m.size%2 == 1 {
				tables = append(tables, m.squareWays(a, b))
			}
		}
	}
	for _, f := range additivePolys(m.size) {
		tables = append(tables, m.table(f))
	}
	tables = slices.DeleteFunc(tables, func(table []int) bool { return !m.isComplete(table) })
	for range 30 {
		tables = append(tables, m.searchedComplete(&mix, nil))
	}
	return tables
}

// completeTables has all of them where these are searched for, and otherwise built ones with elements added.
func completeTables(q int) [][]int {
	m, mix := modelPolysOfSize(q), mixer(q)
	var tables [][]int
	if q <= 8 {
		for _, table := range m.fixedComplete() {
			for c := range q {
				tables = append(tables, m.plusConstant(table, c))
			}
		}
		return tables
	}
	for _, table := range m.builtComplete() {
		tables = append(tables, table, m.plusConstant(table, mix.below(q)))
	}
	return tables
}

func (m modelPolys) plusConstant(table []int, c int) []int {
	return m.sumsOf(table, slices.Repeat([]int{c}, m.size))
}

// nearlyComplete has tables that permute and whose sums with x do not, such with sums that do and which do not permute themselves, and complete ones with one other value.
func nearlyComplete(q int) [][]int {
	m, mix := modelPolysOfSize(q), mixer(q)
	minus := m.table([]int{0, m.less(0, 1)})
	var tables [][]int
	for _, table := range allButMost(manyPermutations(q)) {
		tables = append(tables, table, m.sumsOf(table, minus))
	}
	complete := completeTables(q)
	if len(complete) == 0 {
		return tables
	}
	for _, table := range allButMost(complete) {
		for range 4 {
			swapped, changed, x := slices.Clone(table), slices.Clone(table), mix.below(q)
			y := (x + 1 + mix.below(q-1)) % q
			swapped[x], swapped[y] = table[y], table[x]
			changed[x] = table[y]
			tables = append(tables, swapped, m.sumsOf(swapped, minus), changed)
		}
	}
	return slices.DeleteFunc(tables, m.isComplete)
}

// movedBy has the value at x + a, and b more.
func (m modelPolys) movedBy(table []int, a, b int) []int {
	return m.plusConstant(joinedTable(table, m.plusConstant(identityTable(m.size), a)), b)
}

// negatedInverse leads the sum of x and its value to the element less than 0 by x.
func (m modelPolys) negatedInverse(table []int) []int {
	back := make([]int, m.size)
	for x, y := range m.plusIdentity(table) {
		back[y] = m.less(0, x)
	}
	return back
}

// squareOf has row by row the sums of a value and each element.
func (m modelPolys) squareOf(table []int) [][]int {
	var rows [][]int
	for _, y := range table {
		rows = append(rows, m.plusConstant(identityTable(m.size), y))
	}
	return rows
}

// isSquare also asks for the length of each row.
func isSquare(rows [][]int) bool {
	for x, row := range rows {
		if len(row) != len(rows) || !isPermutation(row) {
			return false
		}
		var column []int
		for y := range rows {
			if len(rows[y]) == len(rows) {
				column = append(column, rows[y][x])
			}
		}
		if len(column) != len(rows) || !isPermutation(column) {
			return false
		}
	}
	return true
}

// areOrthogonal marks all pairs of entries at the same place, and looks for one that is not there.
func areOrthogonal(first, second [][]int) bool {
	n := len(first)
	met := make([]bool, n*n)
	for x := range n {
		for y := range n {
			met[first[x][y]*n+second[x][y]] = true
		}
	}
	return !slices.Contains(met, false)
}

// linesSquare has a x + b y modulo n, where neither a nor b shares a divisor with n.
func linesSquare(n, a, b int) [][]int {
	var rows [][]int
	for x := range n {
		var row []int
		for y := range n {
			row = append(row, (a*x+b*y)%n)
		}
		rows = append(rows, row)
	}
	return rows
}

// joinedSquare has for two squares one with as many rows as the product tells: it is orthogonal to another one if both parts are.
func joinedSquare(first, second [][]int) [][]int {
	n := len(second)
	var rows [][]int
	for x := range len(first) * n {
		var row []int
		for y := range len(first) * n {
			row = append(row, first[x/n][y/n]*n+second[x%n][y%n])
		}
		rows = append(rows, row)
	}
	return rows
}

// renamed puts the rows, the columns and the elements into other orders.
func renamed(square [][]int, rows, columns, elements []int) [][]int {
	var changed [][]int
	for _, x := range rows {
		var row []int
		for _, y := range columns {
			row = append(row, elements[square[x][y]])
		}
		changed = append(changed, row)
	}
	return changed
}

func turned(square [][]int) [][]int {
	var columns [][]int
	for y := range square {
		var column []int
		for _, row := range square {
			column = append(column, row[y])
		}
		columns = append(columns, column)
	}
	return columns
}

// allSquares puts each permutation behind the rows that it suits.
func allSquares(n int) [][][]int {
	squares, orders := [][][]int{nil}, allPermutations(n)
	for range n {
		var longer [][][]int
		for _, begun := range squares {
			for _, row := range orders {
				clashes := func(other []int) bool {
					return slices.ContainsFunc(identityTable(n), func(y int) bool { return other[y] == row[y] })
				}
				if !slices.ContainsFunc(begun, clashes) {
					longer = append(longer, append(slices.Clone(begun), row))
				}
			}
		}
		squares = longer
	}
	return squares
}

// basicSquares has those of lines, those of the fields, and joined ones, for each n from 1 on.
func basicSquares(n int) [][][]int {
	var squares [][][]int
	for a := 1; a <= n; a++ {
		if !shareDivisor(a, n) {
			squares = append(squares, linesSquare(n, a, 1), linesSquare(n, 1, a))
		}
	}
	if slices.Contains(sizes, n) {
		m := modelPolysOfSize(n)
		for a := 1; a < n; a++ {
			squares = append(squares, m.squareOf(m.table([]int{0, a})))
		}
	}
	for _, d := range divisorsOf(n) {
		if d == 1 || d == n {
			continue
		}
		first, second := basicSquares(d), basicSquares(n/d)
		for i := range min(len(first), len(second), 6) {
			squares = append(squares, joinedSquare(first[i], second[i]), joinedSquare(first[i], second[0]))
		}
	}
	return squares
}

// squarePairs has pairs of basic squares, orders of both that keep what is orthogonal, and others that do not.
func squarePairs(n int) [][2][][]int {
	mix, basic := mixer(n), basicSquares(n)
	var pairs [][2][][]int
	for range 120 {
		first, second := basic[mix.below(len(basic))], basic[mix.below(len(basic))]
		rows, columns := mix.permutation(n), mix.permutation(n)
		moved := renamed(first, rows, columns, mix.permutation(n))
		kept := renamed(second, rows, columns, mix.permutation(n))
		other := renamed(second, rows, mix.permutation(n), mix.permutation(n))
		pairs = append(pairs, [2][][]int{first, second}, [2][][]int{moved, kept}, [2][][]int{moved, other}, [2][][]int{moved, turned(moved)}, [2][][]int{first, first})
		pairs = append(pairs, [2][][]int{moved, withSwappedRows(&mix, kept)})
	}
	return pairs
}

func withSwappedRows(mix *mixer, square [][]int) [][]int {
	rows := slices.Clone(square)
	x, y := mix.below(len(rows)), mix.below(len(rows))
	rows[x], rows[y] = rows[y], rows[x]
	return rows
}
