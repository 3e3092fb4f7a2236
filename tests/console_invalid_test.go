package tests

import (
	"fmt"
	"math"
	"slices"
	"strings"
	"testing"

	"loop.example/g01163/impl"
)

// someLines have every kind of line: with an effect, with a reply alone, refused and unknown ones.
var someLines = []string{"", " ", "show", "table", "permutes", "cycles", "order", "kernel", "image", "value 0", "trace 1", "field 5", "field 6", "take -", "take 1", "plus 1", "times -", "at 1", "power 0", "power 101",
	"invert", "normal", "adjoint", "swap 0 1", "swap 0 0", "fly", "value 16", "take 16"}

func failsDeskLine(t *testing.T, d impl.Desk, line string) {
	t.Helper()
	got, reply, ok := impl.DeskLine(d, line)
	if ok || reply != "" || !sameDesk(got, impl.Desk{}) {
		t.Errorf("DeskLine(%d, %v, %.60q) = %v, %q, %v", d.Size, d.Poly[:min(len(d.Poly), 50)], line, got, reply, ok)
	}
}

func failsDesk(t *testing.T, d impl.Desk) {
	t.Helper()
	if impl.IsDesk(d) {
		t.Errorf("%d with %v is a desk", d.Size, d.Poly[:min(len(d.Poly), 50)])
	}
	for _, line := range someLines {
		failsDeskLine(t, d, line)
	}
	failsDeskLine(t, d, "show\n")
	failsDeskLine(t, d, strings.Repeat("x", 3000))
	failsDeskLine(t, d, strings.Repeat("x", 3001))
}

func TestDesksWithoutPolysFail(t *testing.T) {
	for _, q := range sizes {
		for _, f := range slices.Concat(noPolys(q), longLists) {
			failsDesk(t, impl.Desk{Size: q, Poly: f})
		}
	}
}

func TestDesksWithoutFieldsFail(t *testing.T) {
	for _, q := range noSizes {
		for _, f := range [][]int{nil, {}, {0}, {1}, {0, 1}, {1, 1}, {0, 0, 0, 1}, {-1}, {17}, make([]int, 40), slices.Repeat([]int{1}, 16)} {
			failsDesk(t, impl.Desk{Size: q, Poly: f})
		}
	}
	failsDesk(t, impl.Desk{})
}

// TestPolysOfGreaterFieldsAreNoneOverLesserOnes has desks that are one for one size alone.
func TestPolysOfGreaterFieldsAreNoneOverLesserOnes(t *testing.T) {
	for _, q := range sizes {
		for _, other := range sizes {
			for _, f := range [][]int{{q - 1}, slices.Repeat([]int{1}, q), append(make([]int, q-1), q-1)} {
				d := impl.Desk{Size: other, Poly: f}
				if impl.IsDesk(d) != (q <= other) {
					t.Errorf("IsDesk(%v) = %v", d, q > other)
				}
			}
		}
	}
}

func TestLinesThatAreTooLongFail(t *testing.T) {
	for _, d := range fewDesks(5) {
		for _, n := range []int{3001, 3002, 6000, 100000} {
			for _, start := range []string{"", "show", "show ", "take 1", "value ", "fly"} {
				for _, fill := range []string{" ", "0", "x", "\xff"} {
					failsDeskLine(t, d, start+strings.Repeat(fill, n-len(start)))
				}
			}
		}
	}
}

func TestLinesWithNewlinesFail(t *testing.T) {
	for _, q := range sizes {
		for _, d := range fewDesks(q) {
			for _, line := range someLines {
				for i := range len(line) + 1 {
					failsDeskLine(t, d, line[:i]+"\n"+line[i:])
				}
			}
			failsDeskLine(t, d, "\n\n")
			failsDeskLine(t, d, "show\nshow\n")
			failsDeskLine(t, d, strings.Repeat("x", 2999)+"\n")
			failsDeskLine(t, d, "\n"+strings.Repeat("x", 2999))
			failsDeskLine(t, d, strings.Repeat("x", 3000)+"\n")
		}
	}
}

// TestLinesOfAnyBytes has desks of any numbers, too.
func TestLinesOfAnyBytes(t *testing.T) {
	mix := mixer(12)
	for range 3000 {
		d := impl.Desk{Size: sizes[mix.below(len(sizes))]}
		d.Poly = mix.poly(d.Size, mix.below(d.Size+1))
		line := mix.bytes(mix.below(12))
		if strings.Contains(line, "\n") {
			failsDeskLine(t, d, line)
		} else {
			want, _ := modelLine(d, line)
			wantReaction(t, d, line, want)
		}
		d.Poly = append(d.Poly, mix.below(3)-3, math.MinInt, math.MaxInt)
		failsDeskLine(t, d, line)
	}
}

func TestNilAndEmptyPolysAreTheSameDesk(t *testing.T) {
	for _, q := range sizes {
		for _, line := range linesOver(q) {
			first, reply, ok := impl.DeskLine(impl.Desk{Size: q}, line)
			second, replyToo, okToo := impl.DeskLine(impl.Desk{Size: q, Poly: []int{}}, line)
			if !ok || !okToo || reply != replyToo || !sameDesk(first, second) {
				t.Errorf("DeskLine over %d and %q: %v, %q, %v for nil, and %v, %q, %v for an empty list", q, line, first, reply, ok, second, replyToo, okToo)
			}
		}
	}
}

// deskAsList tells the Poly of the desk that is returned, so that its memory can be checked as that of other lists.
func deskAsList(line string) listCall {
	return func(q int, f []int) ([]int, bool) {
		d, _, ok := impl.DeskLine(impl.Desk{Size: q, Poly: f}, line)
		return d.Poly, ok
	}
}

func isDeskAsList(q int, f []int) ([]int, bool) {
	return yesAsList(impl.IsDesk(impl.Desk{Size: q, Poly: f}), true)
}

// replyAsList has the bytes of the reply.
func replyAsList(line string) listCall {
	return func(q int, f []int) ([]int, bool) {
		_, reply, ok := impl.DeskLine(impl.Desk{Size: q, Poly: f}, line)
		return bytesAsList(reply, ok)
	}
}

func deskCalls() map[string]listCall {
	calls := map[string]listCall{"IsDesk": isDeskAsList}
	for _, line := range slices.Concat(someLines, []string{"take 0,1", "plus 0,1", "times 1,1", "at 0,1", "power 1", "power 2"}) {
		calls["the desk behind "+line] = deskAsList(line)
		calls["the reply to "+line] = replyAsList(line)
	}
	return calls
}

func TestDesksAndWhatIsBehindTheirPolysAreKept(t *testing.T) {
	for _, q := range sizes {
		noSome := noPolys(q)
		checkKept(t, q, deskCalls(), slices.Concat(ordinaryPolys(q), givenPolys(q), noSome[:min(len(noSome), 20)]))
	}
}

func TestDesksAreNewEachTime(t *testing.T) {
	checkNew(t, "FirstDesk", func() ([]int, bool) { return impl.FirstDesk().Poly, true })
	for _, q := range sizes {
		for _, f := range slices.Concat(ordinaryPolys(q), givenPolys(q)) {
			for name, call := range deskCalls() {
				checkNew(t, fmt.Sprint(name, " ", q, f), func() ([]int, bool) { return call(q, f) })
			}
		}
	}
}

func TestResultsOfScriptsAreNewEachTime(t *testing.T) {
	mix := mixer(13)
	scripts := []string{"", "\n", "show\n", "field 9\n", "fly\ninvert\nno\n", "take -\n", "take 1,2,3\nshow\nfly\n"}
	for n := range 51 {
		scripts = append(scripts, mix.script(n))
	}
	for _, s := range scripts {
		checkNew(t, fmt.Sprintf("FailedLines(%q)", s), func() ([]int, bool) { return impl.FailedLines(s) })
		checkNew(t, fmt.Sprintf("DeskAfter(%q)", s), func() ([]int, bool) {
			d, ok := impl.DeskAfter(s)
			return d.Poly, ok
		})
		replies, _ := impl.RunScript(s)
		kept := slices.Clone(replies)
		whole := replies[:cap(replies)]
		for i := range whole {
			whole[i] = "changed"
		}
		again, ok := impl.RunScript(s)
		if !ok || !slices.Equal(again, kept) {
			t.Errorf("RunScript(%q) = %q, %v, and %q before", s, again, ok, kept)
		}
	}
}
