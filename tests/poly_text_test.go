package tests

import (
	"fmt"
	"slices"
	"strconv"
	"strings"
	"testing"

	"loop.example/g01163/impl"
)

// greatestNumbers has, for each size, the greatest number that has at most q digits and is not above 999999.
var greatestNumbers = map[int]int{2: 3, 3: 26, 4: 255, 5: 3124, 7: 823542, 8: 999999, 9: 999999, 11: 999999, 13: 999999, 16: 999999}

func TestNumbersAndPolysTellEachOther(t *testing.T) {
	for _, q := range sizes {
		greatest := greatestNumbers[q]
		step := max(greatest/4000, 1)
		numbers := []int{0, 1, q - 1, greatest - 1, greatest}
		for number := 0; number <= greatest; number += step {
			numbers = append(numbers, number)
		}
		for _, number := range numbers {
			var want []int
			for rest := number; rest > 0; rest /= q {
				want = append(want, rest%q)
			}
			f, ok := impl.PolyWith(q, number)
			wantList(t, fmt.Sprint("PolyWith ", q, number), f, ok, want...)
			if is, _ := impl.IsPoly(q, f); !is {
				t.Errorf("PolyWith(%d, %d) = %v is no polynomial", q, number, f)
			}
			back, ok := impl.NumberOfPoly(q, f)
			wantNumber(t, fmt.Sprint("NumberOfPoly ", q, f), back, ok, number)
		}
	}
}

func TestGreaterNumbersFail(t *testing.T) {
	for _, q := range sizes {
		for _, number := range []int{greatestNumbers[q] + 1, greatestNumbers[q] + 2, 1000000, 1000001} {
			f, ok := impl.PolyWith(q, number)
			failsList(t, "PolyWith", f, ok, q, number)
		}
	}
	f, ok := impl.PolyWith(5, 3124)
	wantList(t, "PolyWith", f, ok, 4, 4, 4, 4, 4)
}

// TestPolysWithGreaterNumbersFail also has those whose numbers no int holds: 8 times 16^15 is 2^63.
func TestPolysWithGreaterNumbersFail(t *testing.T) {
	for _, q := range []int{8, 9, 11, 13, 16} {
		f := digitList(q, 7, 1000000)
		number, ok := impl.NumberOfPoly(q, withoutZeros(f))
		failsNumber(t, "NumberOfPoly", number, ok, append([]int{q}, f...)...)
		for n := 1; n <= q; n++ {
			for _, top := range []int{1, q / 2, q - 1} {
				f := make([]int, n)
				f[n-1] = top
				got, ok := impl.NumberOfPoly(q, f)
				if want, small := smallNumber(q, f); small {
					wantNumber(t, fmt.Sprint("NumberOfPoly ", q, f), got, ok, want)
				} else {
					failsNumber(t, "NumberOfPoly", got, ok, append([]int{q}, f...)...)
				}
			}
		}
		full := slices.Repeat([]int{q - 1}, q)
		number, ok = impl.NumberOfPoly(q, full)
		failsNumber(t, "NumberOfPoly", number, ok, append([]int{q}, full...)...)
	}
}

func smallNumber(q int, f []int) (int, bool) {
	number := 0.0
	for i := len(f) - 1; i >= 0; i-- {
		number = number*float64(q) + float64(f[i])
	}
	return int(number), number <= 999999
}

func TestTextsAndPolysTellEachOther(t *testing.T) {
	for _, q := range sizes {
		for _, f := range manyPolys(q) {
			want := plainText(f)
			text, ok := impl.PolyText(q, f)
			if text != want || !ok {
				t.Errorf("PolyText(%d, %v) = %q, %v", q, f, text, ok)
			}
			back, ok := impl.ParsePoly(q, text)
			wantList(t, fmt.Sprint("ParsePoly ", q, text), back, ok, f...)
		}
	}
	text, ok := impl.PolyText(16, slices.Repeat([]int{15}, 16))
	if text != "15,15,15,15,15,15,15,15,15,15,15,15,15,15,15,15" || !ok {
		t.Errorf("PolyText = %q, %v", text, ok)
	}
}

func plainText(f []int) string {
	text := ""
	for _, a := range f {
		text += "," + strconv.Itoa(a)
	}
	if text == "" {
		return "-"
	}
	return text[1:]
}

// noTextsOverAny has texts that are those of no polynomial over any field.
func noTextsOverAny() []string {
	return []string{"", ",", ",,", " ", "0", "00", "0,0", "1,0", "--", "-,", ",-", "-,1", "1,-", "- ", " -", "-0", "-1", "+1", "+", "1,+1", "01", "1,01", "001", "1,00,1",
		" 1", "1 ", "1, 1", "1 ,1", "1,1,", ",1", "1,,1", "1;1", "1.1", "1.0", "1e0", "0x1", "1_0", "\n", "1\n", "1\r", "1\t", "\x00", "1\x00", "x", "1,x", "a", "\xff", "1,\xff", "١", "１", "−",
		"16", "1,16", "17", "100", "9223372036854775807", "9223372036854775808", "18446744073709551617", "1," + strings.Repeat("0", 1000) + "1", strings.Repeat("9", 1000), strings.Repeat(",", 1000)}
}

// noTexts also has numbers that are no elements of the field, and more coefficients than there may be.
func noTexts(q int) []string {
	size, tooMany := strconv.Itoa(q), strings.Repeat("1,", q)+"1"
	return append(noTextsOverAny(), size, "1,"+size, size+",1", strconv.Itoa(-q), size+",0",
		tooMany, tooMany+",1", strings.Repeat("1,", 39)+"1", strings.Repeat("1,", 5000)+"1", strings.Repeat("0,", q)+"1", strings.Repeat("1,", q)+"0", strings.Repeat("1,", q))
}

func TestTextsThatAreNoneFail(t *testing.T) {
	for _, q := range sizes {
		failsTexts(t, q, noTexts(q))
		full, ok := impl.ParsePoly(q, strings.Repeat("0,", q-1)+"1")
		wantList(t, fmt.Sprint("ParsePoly ", q), full, ok, append(make([]int, q-1), 1)...)
	}
	failsTexts(t, 5, []string{"5", "6", "1,0,2,0", "1,0,2,"})
	for _, q := range noSizes {
		failsTexts(t, q, append(noTextsOverAny(), "-", "1", "0,1", "1,1"))
	}
}

func failsTexts(t *testing.T, q int, texts []string) {
	t.Helper()
	for _, text := range texts {
		if got, ok := impl.ParsePoly(q, text); len(got) != 0 || ok {
			t.Errorf("ParsePoly(%d, %q) = %v, %v", q, text, got, ok)
		}
	}
}

// TestOnlyTextsOfPolysAreParsed tries all short texts of the signs that polynomials have, and of some others.
func TestOnlyTextsOfPolysAreParsed(t *testing.T) {
	signs := []byte("0123,-+ 6")
	for _, q := range []int{2, 3, 5, 11, 16} {
		texts := map[string][]int{}
		for _, f := range shortPolys(q) {
			texts[plainText(f)] = f
		}
		for n := range 6 {
			for number := range power(len(signs), n) {
				text := make([]byte, n)
				for i, d := range digitList(len(signs), n, number) {
					text[i] = signs[d]
				}
				want, is := texts[string(text)]
				got, ok := impl.ParsePoly(q, string(text))
				if ok != is || !slices.Equal(got, want) {
					t.Errorf("ParsePoly(%d, %q) = %v, %v", q, text, got, ok)
				}
			}
		}
	}
}

// shortPolys has all with at most three coefficients: a text of five signs has no more.
func shortPolys(q int) [][]int {
	var polys [][]int
	for _, list := range allLists(q, min(q, 3)) {
		polys = append(polys, withoutZeros(list))
	}
	return polys
}
