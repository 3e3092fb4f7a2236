package tests

import (
	"regexp"
	"slices"
	"strconv"
	"strings"

	"loop.example/g01163/impl"
)

// The model of chapter 10 tells lines by patterns, and makes the calls that the document names for them. The calls are tested apart.

// reaction is what a line has to lead to.
type reaction struct {
	desk  impl.Desk
	reply string
}

func (r reaction) hasFailed() bool { return r.reply == "no" || r.reply == "what" }

func wantsWhat(d impl.Desk) reaction { return reaction{d, "what"} }

func repliesText(d impl.Desk) func(string, bool) reaction {
	return func(reply string, ok bool) reaction {
		if !ok {
			return reaction{d, "no"}
		}
		return reaction{d, reply}
	}
}

func repliesNumber(d impl.Desk) func(int, bool) reaction {
	return func(number int, ok bool) reaction { return repliesText(d)(strconv.Itoa(number), ok) }
}

func repliesList(d impl.Desk) func([]int, bool) reaction {
	return func(list []int, ok bool) reaction { return repliesText(d)(plainText(list), ok) }
}

func repliesCycles(d impl.Desk) func([][]int, bool) reaction {
	return func(cycles [][]int, ok bool) reaction {
		reply := ""
		for _, cycle := range cycles {
			reply += " " + plainText(cycle)
		}
		return repliesText(d)(strings.TrimPrefix(reply, " "), ok)
	}
}

func repliesClash(d impl.Desk) func(int, int, bool) reaction {
	return func(a, b int, clashes bool) reaction {
		if !clashes {
			return reaction{d, "yes"}
		}
		return reaction{d, strconv.Itoa(a) + "," + strconv.Itoa(b)}
	}
}

func becomes(d impl.Desk) func([]int, bool) reaction {
	return func(f []int, ok bool) reaction {
		if !ok {
			return reaction{d, "no"}
		}
		return reaction{impl.Desk{Size: d.Size, Poly: f}, plainText(f)}
	}
}

func becomesField(d impl.Desk, q int) reaction {
	if !slices.Contains(sizes, q) {
		return reaction{d, "no"}
	}
	return reaction{impl.Desk{Size: q, Poly: []int{0, 1}}, "ok"}
}

// lineRule has a line of the document's table, with N for each number and F for a polynomial. Numbers are given as lists, too.
type lineRule struct {
	form string
	does func(d impl.Desk, q int, f []int, given [][]int) reaction
}

var lineRules = []lineRule{
	{"field N", func(d impl.Desk, _ int, _ []int, given [][]int) reaction { return becomesField(d, given[0][0]) }},
	{"take F", func(d impl.Desk, _ int, _ []int, given [][]int) reaction { return becomes(d)(given[0], true) }},
	{"plus F", func(d impl.Desk, q int, f []int, given [][]int) reaction {
		return becomes(d)(impl.PlusPoly(q, f, given[0]))
	}},
	{"times F", func(d impl.Desk, q int, f []int, given [][]int) reaction {
		return becomes(d)(impl.TimesPoly(q, f, given[0]))
	}},
	{"at F", func(d impl.Desk, q int, f []int, given [][]int) reaction {
		return becomes(d)(impl.ComposePoly(q, f, given[0]))
	}},
	{"power N", func(d impl.Desk, q int, f []int, given [][]int) reaction {
		return becomes(d)(impl.PowerPoly(q, f, given[0][0]))
	}},
	{"invert", func(d impl.Desk, q int, f []int, _ [][]int) reaction { return becomes(d)(impl.InversePoly(q, f)) }},
	{"normal", func(d impl.Desk, q int, f []int, _ [][]int) reaction { return becomes(d)(impl.NormalOf(q, f)) }},
	{"swap N N", func(d impl.Desk, q int, _ []int, given [][]int) reaction {
		return becomes(d)(impl.SwapPoly(q, given[0][0], given[1][0]))
	}},
	{"adjoint", func(d impl.Desk, q int, f []int, _ [][]int) reaction { return becomes(d)(impl.AdjointOf(q, f)) }},
	{"show", func(d impl.Desk, q int, f []int, _ [][]int) reaction { return repliesText(d)(impl.PolyText(q, f)) }},
	{"table", func(d impl.Desk, q int, f []int, _ [][]int) reaction { return repliesList(d)(impl.TableOf(q, f)) }},
	{"value N", func(d impl.Desk, q int, f []int, given [][]int) reaction {
		return repliesNumber(d)(impl.ValueAt(q, f, given[0][0]))
	}},
	{"permutes", func(d impl.Desk, q int, f []int, _ [][]int) reaction { return repliesClash(d)(impl.FirstClash(q, f)) }},
	{"cycles", func(d impl.Desk, q int, f []int, _ [][]int) reaction {
		return repliesCycles(d)(impl.CyclesOfPoly(q, f))
	}},
	{"order", func(d impl.Desk, q int, f []int, _ [][]int) reaction {
		return repliesNumber(d)(impl.OrderOfPoly(q, f))
	}},
	{"kernel", func(d impl.Desk, q int, f []int, _ [][]int) reaction { return repliesList(d)(impl.KernelOf(q, f)) }},
	{"image", func(d impl.Desk, q int, f []int, _ [][]int) reaction { return repliesList(d)(impl.ImageOf(q, f)) }},
	{"trace N", func(d impl.Desk, q int, _ []int, given [][]int) reaction {
		return repliesNumber(d)(impl.TraceOf(q, given[0][0]))
	}},
}

var linePatterns = patternsOfRules()

func patternsOfRules() []*regexp.Regexp {
	words := strings.NewReplacer("N", `(0|[1-9][0-9]{0,5})`, "F", `(-|(?:[0-9]+,)*[0-9]+)`)
	var patterns []*regexp.Regexp
	for _, rule := range lineRules {
		patterns = append(patterns, regexp.MustCompile(`^`+words.Replace(rule.form)+`$`))
	}
	return patterns
}

// modelPoly fails for texts that fit the pattern alone.
func modelPoly(q int, text string) ([]int, bool) {
	var f []int
	for word := range strings.SplitSeq(strings.TrimPrefix(text, "-"), ",") {
		if a, err := strconv.Atoi(word); err == nil {
			f = append(f, a)
		}
	}
	isNone := func(a int) bool { return a < 0 || a >= q }
	return f, len(f) <= q && !slices.ContainsFunc(f, isNone) && len(withoutZeros(f)) == len(f) && plainText(f) == text
}

// modelGiven fails if a word that should be a PolyText is none.
func modelGiven(q int, form string, words []string) ([][]int, bool) {
	var given [][]int
	for _, word := range words {
		if strings.Contains(form, "F") {
			f, ok := modelPoly(q, word)
			if !ok {
				return nil, false
			}
			given = append(given, f)
		} else {
			number, _ := strconv.Atoi(word)
			given = append(given, []int{number})
		}
	}
	return given, true
}

// modelLine also tells the form of the line, or what.
func modelLine(d impl.Desk, line string) (reaction, string) {
	for i, rule := range lineRules {
		if found := linePatterns[i].FindStringSubmatch(line); found != nil {
			if given, ok := modelGiven(d.Size, rule.form, found[1:]); ok {
				return rule.does(d, d.Size, d.Poly, given), rule.form
			}
		}
	}
	return wantsWhat(d), "what"
}

var scriptPattern = regexp.MustCompile(`^(?:[^\n]*\n){0,50}$`)

func isScript(s string) bool { return len(s) <= 3000 && scriptPattern.MatchString(s) }

// modelScript is for scripts. It takes the lines off one by one.
func modelScript(s string) []reaction {
	var reactions []reaction
	d := impl.Desk{Size: 5, Poly: []int{0, 0, 0, 1}}
	for s != "" {
		var line string
		line, s, _ = strings.Cut(s, "\n")
		done, _ := modelLine(d, line)
		reactions = append(reactions, done)
		d = done.desk
	}
	return reactions
}

// numberWords are those of a number in a line over a field: all elements, the numbers near to them, sizes, and those at the limits.
func numberWords(q int) []string {
	numbers := append(identityTable(q+3), 17, 25, 32, 99, 100, 101, 255, 256, 65536, 99999, 100000, 999998, 999999)
	for _, number := range append(sizes, noSizes...) {
		if number >= 0 && number <= 40 {
			numbers = append(numbers, number)
		}
	}
	var words []string
	for _, number := range numbers {
		words = append(words, strconv.Itoa(number))
	}
	return slices.Compact(slices.Sorted(slices.Values(words)))
}

// linesOver has each line of the table, with all words of numbers, some pairs of them, and the texts of some polynomials.
func linesOver(q int) []string {
	var lines []string
	mix, words := mixer(q), numberWords(q)
	for _, rule := range lineRules {
		name := strings.Fields(rule.form)[0]
		switch {
		case strings.HasSuffix(rule.form, "N N"):
			for i, word := range words {
				other := strconv.Itoa(mix.below(q))
				lines = append(lines, name+" "+word+" "+other, name+" "+other+" "+word, name+" "+word+" "+words[(i+1)%len(words)])
			}
		case strings.HasSuffix(rule.form, "N"):
			for _, word := range words {
				lines = append(lines, name+" "+word)
			}
		case strings.HasSuffix(rule.form, "F"):
			for _, f := range givenPolys(q) {
				lines = append(lines, name+" "+plainText(f))
			}
		default:
			lines = append(lines, name)
		}
	}
	return lines
}

// givenPolys are few, of different degrees.
func givenPolys(q int) [][]int {
	mix := mixer(q)
	polys := [][]int{nil, {1}, {0, 1}, {1, 1}, slices.Repeat([]int{q - 1}, q), append(make([]int, q-1), 1)}
	for n := 1; n <= q; n += 2 {
		polys = append(polys, mix.poly(q, n))
	}
	return polys
}
