package tests

import (
	"slices"
	"strconv"
	"strings"
	"testing"

	"loop.example/g01163/impl"
)

// validLines has one line of each form that does not fail over a desk with the Poly x, with words that fit over each field.
func validLines(q int) []string {
	top := strconv.Itoa(q - 1)
	return []string{"field 7", "take 1,1", "take -", "plus 0,1", "times 0,1", "at 1,1", "power 2", "invert", "normal", "swap 0 " + top, "adjoint",
		"show", "table", "value " + top, "permutes", "cycles", "order", "kernel", "image", "trace 1"}
}

// noNumbers are words that are no numbers in 0..999999 without superfluous zeros.
func noNumbers() []string {
	return []string{"", "00", "01", "007", "0000000", "0000001", "000001", "0999999", "+1", "+0", "-1", "-0", "-", "--1", "1.0", "1.", ".5", "1e3", "1E3", "0x1", "0X1", "0b1", "0o7", "1_0", "1,0", "1,", ",1", "1;",
		"1000000", "1000001", "1999999", "9999999", "2147483648", "4294967296", "4294967297", "9223372036854775807", "9223372036854775808", "18446744073709551616", "18446744073709551617",
		strings.Repeat("0", 1000), strings.Repeat("0", 1000) + "1", strings.Repeat("9", 1000), "1" + strings.Repeat("0", 1000),
		"a", "1a", "a1", "X", "K", "\x00", "1\x00", "\x001", "\xff", "1\xff", "\xff1", "1\t", "\t1", "1\r", "1\v", "１", "١", "²", "½", "−1", "NaN", "Inf", "nil", "true", "show"}
}

// wantsNothing asks for what, and for the desk as it was.
func wantsNothing(t *testing.T, q int, lines ...string) {
	t.Helper()
	for _, d := range []impl.Desk{{Size: q}, {Size: q, Poly: []int{0, 1}}, {Size: q, Poly: []int{q - 1, 1}}} {
		for _, line := range lines {
			wantReaction(t, d, line, reaction{d, "what"})
		}
	}
}

// TestValidLinesAreExecuted tells that the lines that are changed below are what the others are not.
func TestValidLinesAreExecuted(t *testing.T) {
	for _, q := range sizes {
		for _, line := range validLines(q) {
			_, reply, ok := impl.DeskLine(impl.Desk{Size: q, Poly: []int{0, 1}}, line)
			if !ok || reply == "no" || reply == "what" {
				t.Errorf("DeskLine replies %q, %v to %q over %d", reply, ok, line, q)
			}
		}
	}
}

func TestLinesWithOtherWordsAreWhat(t *testing.T) {
	for _, q := range sizes {
		wantsNothing(t, q, "", " ", "  ", "fly", "what", "no", "ok", "yes", "-", "0", "1", "0,1", "5", "help", "quit", "undo", "field", "take", "plus", "times", "at", "power", "swap", "value", "trace",
			"sign", "fixed", "degree", "rank", "inverse", "minus 1", "less 1", "scale 1", "shift 1", "reduce 1", "rows", "solve 1", "is 1", "norm 1", "iterate 1", "parse 1", "read 1", "complete")
		for _, line := range validLines(q) {
			name, rest, _ := strings.Cut(line, " ")
			wantsNothing(t, q, strings.ToUpper(line), strings.ToUpper(line[:1])+line[1:], "x"+line, name+"x "+rest, name+"s "+rest, name+name, name+name+" "+rest, name+"_"+rest)
			wantsNothing(t, q, ":"+line, "/"+line, "#"+line, "\""+line+"\"", "("+line+")", line+";", line+"?", line+"!", line+" #", line+"; show", line+"\x00", line+"\r", "\r"+line, "\x00"+line, "\ufeff"+line)
		}
	}
}

// TestPartsOfLinesAreWhat has all beginnings and ends of lines, but for numbers and polynomials that are shorter than the given ones.
func TestPartsOfLinesAreWhat(t *testing.T) {
	for _, q := range sizes {
		for _, line := range validLines(q) {
			name, _, _ := strings.Cut(line, " ")
			for i := range name {
				wantsNothing(t, q, line[:i], line[i+1:], name[:i]+name[i+1:], line[:i]+line[i+1:], line[:i]+" "+line[i:], line[:i]+"\t"+line[i:])
			}
			if name != line {
				wantsNothing(t, q, name, name+" ")
			}
		}
	}
}

func TestBlanksThatSeparateNoWordsAreWhat(t *testing.T) {
	for _, q := range sizes {
		for _, line := range validLines(q) {
			wantsNothing(t, q, " "+line, "  "+line, line+" ", line+"  ", " "+line+" ", "\t"+line, line+"\t", "\u00a0"+line, line+"\u00a0")
			if strings.Contains(line, " ") {
				for _, between := range []string{"  ", "   ", "\t", " \t", "\t ", "\r", "\v", "\f", "\x00", "\u00a0", "\u2003", ",", "", "_", ":", "="} {
					wantsNothing(t, q, strings.ReplaceAll(line, " ", between))
				}
			}
		}
		wantsNothing(t, q, "swap  0 1", "swap 0  1", "swap 0 1 ", " swap 0 1", "swap 0 ", "swap  0", "swap  ", "swap   ", "swap 0,1", "swap 0\t1")
	}
}

func TestLinesWithTooManyOrTooFewWordsAreWhat(t *testing.T) {
	for _, q := range sizes {
		for _, line := range validLines(q) {
			for _, word := range []string{"", "0", "1", "-", "1,1", "show", "x", "7"} {
				wantsNothing(t, q, line+" "+word, word+" "+line, line+" "+word+" "+word, line+" "+word+" "+word+" "+word)
			}
			words := strings.Split(line, " ")
			if len(words) > 1 {
				turned := slices.Concat(words[1:], words[:1])
				wantsNothing(t, q, strings.Join(words[:len(words)-1], " "), strings.Join(words[1:], " "), strings.Join(turned, " "))
			}
		}
		wantsNothing(t, q, "swap", "swap 0", "swap 0 1 0", "swap 0 1 1 0", "field 5 5", "power 1 1", "value 0 0", "trace 0 0", "take 1 1", "plus 1 1", "times 1 1", "at 1 1", "show show", "invert invert")
	}
}

func TestWordsThatAreNoNumbersAreWhat(t *testing.T) {
	for _, q := range sizes {
		other := strconv.Itoa(q)
		for _, word := range noNumbers() {
			for _, name := range []string{"field", "power", "value", "trace"} {
				wantsNothing(t, q, name+" "+word)
			}
			// The other word may also be a number that is no element.
			wantsNothing(t, q, "swap 0 "+word, "swap "+word+" 0", "swap "+word+" "+word, "swap "+other+" "+word, "swap "+word+" "+other)
		}
	}
}

func TestWordsThatAreNoPolyTextsAreWhat(t *testing.T) {
	for _, q := range sizes {
		for _, text := range noTexts(q) {
			if len(text) > 2900 || strings.Contains(text, "\n") {
				continue
			}
			for _, name := range []string{"take", "plus", "times", "at"} {
				wantsNothing(t, q, name+" "+text)
			}
		}
	}
}

// TestNumbersAtLimitsAreNoOrWhat has the last number of six digits, which is one, and the next one, which is none.
func TestNumbersAtLimitsAreNoOrWhat(t *testing.T) {
	for _, q := range sizes {
		d := impl.Desk{Size: q, Poly: []int{0, 1}}
		for _, name := range []string{"field", "power", "value", "trace", "swap 0", "swap"} {
			end := ""
			if name == "swap" {
				end = " 0"
			}
			for _, word := range []string{"999999", "999998", "100000", "65537", "1000", "101"} {
				wantReaction(t, d, name+" "+word+end, reaction{d, "no"})
			}
			wantsNothing(t, q, name+" 1000000"+end, name+" 0999999"+end, name+" 9999990"+end)
		}
	}
}

// TestEachByteAtEachPlace puts each byte but the newline before, behind, into and in place of bytes of lines.
func TestEachByteAtEachPlace(t *testing.T) {
	lines := []string{"show", "value 1", "take 0,1", "swap 0 1", "order", "field 9"}
	d := impl.Desk{Size: 13, Poly: []int{1, 2}}
	for b := range 256 {
		if b == '\n' {
			continue
		}
		one := string([]byte{byte(b)})
		wantReaction(t, d, one, wantsWhat(d))
		for _, line := range lines {
			for i := range len(line) + 1 {
				for _, changed := range []string{line[:i] + one + line[i:], line[:i] + one + line[min(i+1, len(line)):]} {
					want, _ := modelLine(d, changed)
					wantReaction(t, d, changed, want)
				}
			}
		}
	}
}

// TestLongLinesAreExecuted has lines of up to MaxScript bytes, none of which the table has.
func TestLongLinesAreExecuted(t *testing.T) {
	for _, q := range sizes {
		for _, n := range []int{1000, 2999, 3000} {
			for _, start := range []string{"show ", "show", "take 1,", "take ", "value 1", "swap 0 ", "field ", ""} {
				for _, fill := range []string{" ", "0", "1", ",", "-", "x", "\x00", "\xff"} {
					wantsNothing(t, q, start+strings.Repeat(fill, n-len(start)))
				}
			}
			wantsNothing(t, q, strings.Repeat(" ", n-4)+"show", "value "+strings.Repeat("0", n-7)+"1", strings.Repeat("show ", n/5), strings.Repeat("show ", n/5-1)+" show")
		}
	}
}
