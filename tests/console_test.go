package tests

import (
	"slices"
	"strings"
	"testing"

	"loop.example/g01163/impl"
)

func sameDesk(first, second impl.Desk) bool {
	return first.Size == second.Size && slices.Equal(first.Poly, second.Poly)
}

func copiedDesk(d impl.Desk) impl.Desk { return impl.Desk{Size: d.Size, Poly: slices.Clone(d.Poly)} }

// wantReaction also asks for a desk behind the line.
func wantReaction(t *testing.T, d impl.Desk, line string, want reaction) {
	t.Helper()
	got, reply, ok := impl.DeskLine(copiedDesk(d), line)
	if !ok || reply != want.reply || !sameDesk(got, want.desk) {
		t.Errorf("DeskLine(%v, %.60q) = %v, %q, %v, want %v, %q", d, line, got, reply, ok, want.desk, want.reply)
	}
	if !impl.IsDesk(got) {
		t.Errorf("DeskLine(%v, %.60q): %v is no desk", d, line, got)
	}
}

// wantAfter executes lines one after the other, from a desk on.
func wantAfter(t *testing.T, d impl.Desk, rows ...[2]string) impl.Desk {
	t.Helper()
	for _, row := range rows {
		next, reply, ok := impl.DeskLine(d, row[0])
		if !ok || reply != row[1] {
			t.Errorf("DeskLine(%v, %q) replies %q, %v, want %q", d, row[0], reply, ok, row[1])
		}
		d = next
	}
	return d
}

func wantDesk(t *testing.T, name string, got impl.Desk, ok bool, want impl.Desk) {
	t.Helper()
	if !ok || !sameDesk(got, want) {
		t.Errorf("%s: got %v, %v, want %v", name, got, ok, want)
	}
}

// desksOver has polynomials that permute, additive ones, constants and others.
func desksOver(t *testing.T, q int) []impl.Desk {
	t.Helper()
	polys := slices.Concat(ordinaryPolys(q), allButMost(permutingPolys(t, q)), allButMost(additivePolys(q)), allButMost(manyPolys(q)))
	var desks []impl.Desk
	for _, f := range polys {
		desks = append(desks, impl.Desk{Size: q, Poly: f})
	}
	return desks
}

// fewDesks has a polynomial that permutes and is additive, one of each kind alone, and others.
func fewDesks(q int) []impl.Desk {
	desks := []impl.Desk{{Size: q}, {Size: q, Poly: []int{q - 1}}, {Size: q, Poly: []int{0, 1}}, {Size: q, Poly: []int{1, 1}}}
	mix := mixer(q)
	for n := 3; n <= q; n += 3 {
		desks = append(desks, impl.Desk{Size: q, Poly: mix.poly(q, n)})
	}
	return desks
}

func TestLimitsOfConsole(t *testing.T) {
	if impl.MaxScript != 3000 || impl.MaxLines != 50 {
		t.Error("MaxScript and MaxLines", impl.MaxScript, impl.MaxLines)
	}
}

func TestFirstDesk(t *testing.T) {
	wantDesk(t, "FirstDesk", impl.FirstDesk(), impl.IsDesk(impl.FirstDesk()), impl.Desk{Size: 5, Poly: []int{0, 0, 0, 1}})
}

func TestWhatIsADesk(t *testing.T) {
	for _, q := range sizes {
		for _, f := range manyPolys(q) {
			if !impl.IsDesk(impl.Desk{Size: q, Poly: f}) {
				t.Errorf("%v over %d is no desk", f, q)
			}
		}
		if !impl.IsDesk(impl.Desk{Size: q, Poly: []int{}}) {
			t.Errorf("the polynomial 0 over %d is no desk", q)
		}
	}
}

// TestLinesDoWhatTheirCallsDo asks all desks for what stands alone and for some of the other lines, and few desks for all lines.
func TestLinesDoWhatTheirCallsDo(t *testing.T) {
	for _, q := range sizes {
		replied, refused := map[string]int{}, map[string]int{}
		look := func(d impl.Desk, line string) {
			want, form := modelLine(d, line)
			wantReaction(t, d, line, want)
			if want.reply == "no" {
				refused[form]++
			} else {
				replied[form]++
			}
		}
		lines := linesOver(q)
		for i, d := range desksOver(t, q) {
			for j, line := range lines {
				if !strings.Contains(line, " ") || (i+j)%5 == 0 {
					look(d, line)
				}
			}
		}
		for _, d := range fewDesks(q) {
			for _, line := range lines {
				look(d, line)
			}
		}
		checkForms(t, q, replied, refused)
	}
}

// alwaysReply are the lines whose calls do not fail over any desk.
var alwaysReply = []string{"take F", "plus F", "times F", "at F", "show", "table", "permutes"}

// checkForms looks whether lines of each form have been executed, and have been refused where they can be.
func checkForms(t *testing.T, q int, replied, refused map[string]int) {
	t.Helper()
	for _, rule := range lineRules {
		if replied[rule.form] == 0 {
			t.Errorf("no line %q is executed over %d", rule.form, q)
		}
		if (refused[rule.form] == 0) != slices.Contains(alwaysReply, rule.form) {
			t.Errorf("%d lines %q are refused over %d", refused[rule.form], rule.form, q)
		}
	}
	if replied["what"] > 0 {
		t.Errorf("%d lines over %d are none", replied["what"], q)
	}
}

// TestLinesLeadFromFieldToField has each pair of sizes, and polynomials that the other field does not have.
func TestLinesLeadFromFieldToField(t *testing.T) {
	for _, q := range sizes {
		full := slices.Repeat([]int{q - 1}, q)
		for _, other := range sizes {
			want := impl.Desk{Size: other, Poly: []int{0, 1}}
			got, reply, ok := impl.DeskLine(impl.Desk{Size: q, Poly: full}, "field "+plainText([]int{other}))
			wantDesk(t, "field", got, ok && reply == "ok", want)
			wantAfter(t, got, [2]string{"show", "0,1"}, [2]string{"order", "1"}, [2]string{"permutes", "yes"})
		}
		for _, word := range numberWords(q) {
			d := impl.Desk{Size: q, Poly: full}
			if want, _ := modelLine(d, "field "+word); want.reply == "no" {
				wantReaction(t, d, "field "+word, reaction{d, "no"})
			}
		}
	}
}

func TestWrittenLines(t *testing.T) {
	d := wantAfter(t, impl.FirstDesk(), [2]string{"show", "0,0,0,1"}, [2]string{"table", "0,1,3,2,4"}, [2]string{"cycles", "0 1 2,3 4"}, [2]string{"order", "2"},
		[2]string{"permutes", "yes"}, [2]string{"value 2", "3"}, [2]string{"invert", "0,0,0,1"}, [2]string{"plus 1", "1,0,0,1"}, [2]string{"take 0,0,1", "0,0,1"},
		[2]string{"permutes", "1,4"}, [2]string{"invert", "no"}, [2]string{"fly", "what"}, [2]string{"show", "0,0,1"}, [2]string{"cycles", "no"}, [2]string{"order", "no"},
		[2]string{"kernel", "no"}, [2]string{"image", "no"}, [2]string{"adjoint", "no"}, [2]string{"value 5", "no"}, [2]string{"trace 5", "no"}, [2]string{"trace 4", "4"})
	wantDesk(t, "after x^2", d, true, impl.Desk{Size: 5, Poly: []int{0, 0, 1}})
	d = wantAfter(t, d, [2]string{"take 1,0,2", "1,0,2"}, [2]string{"table", "1,3,4,4,3"}, [2]string{"normal", "0,0,1"}, [2]string{"power 2", "0,0,0,0,1"}, [2]string{"power 100", "0,0,0,0,1"},
		[2]string{"power 101", "no"}, [2]string{"power 0", "1"}, [2]string{"normal", "no"}, [2]string{"times 0,1", "0,1"}, [2]string{"times 3,1", "0,3,1"}, [2]string{"times -", "-"},
		[2]string{"show", "-"}, [2]string{"table", "0,0,0,0,0"}, [2]string{"permutes", "0,1"}, [2]string{"kernel", "0,1,2,3,4"}, [2]string{"image", "0"}, [2]string{"normal", "no"},
		[2]string{"power 0", "1"}, [2]string{"take -", "-"}, [2]string{"adjoint", "-"})
	wantDesk(t, "after 0", d, true, impl.Desk{Size: 5})
	d = wantAfter(t, d, [2]string{"take 1,1", "1,1"}, [2]string{"at 0,2", "1,2"}, [2]string{"at 0,0,1", "1,0,2"}, [2]string{"at 1", "3"}, [2]string{"plus 2", "-"}, [2]string{"field 6", "no"},
		[2]string{"field 3", "ok"}, [2]string{"swap 0 1", "1,2"}, [2]string{"swap 1 0", "1,2"}, [2]string{"cycles", "0,1 2"}, [2]string{"swap 0 3", "no"}, [2]string{"swap 3 0", "no"}, [2]string{"swap 2 2", "0,1"})
	wantDesk(t, "after swaps", d, true, impl.Desk{Size: 3, Poly: []int{0, 1}})
}

// TestWrittenLinesOverGreaterFields has the examples of chapters 1 and 6, too.
func TestWrittenLinesOverGreaterFields(t *testing.T) {
	d := wantAfter(t, impl.FirstDesk(), [2]string{"field 4", "ok"}, [2]string{"show", "0,1"}, [2]string{"take 0,0,1", "0,0,1"}, [2]string{"table", "0,1,3,2"}, [2]string{"kernel", "0"},
		[2]string{"image", "0,1,2,3"}, [2]string{"cycles", "0 1 2,3"}, [2]string{"trace 2", "1"}, [2]string{"adjoint", "0,0,1"}, [2]string{"times 2", "0,0,2"}, [2]string{"adjoint", "0,0,3"},
		[2]string{"take 0,1,1", "0,1,1"}, [2]string{"kernel", "0,1"}, [2]string{"image", "0,1"}, [2]string{"permutes", "0,1"}, [2]string{"invert", "no"}, [2]string{"plus 4", "what"}, [2]string{"plus 3", "3,1,1"},
		[2]string{"kernel", "no"}, [2]string{"value 2", "2"}, [2]string{"value 4", "no"})
	wantDesk(t, "over 4", d, true, impl.Desk{Size: 4, Poly: []int{3, 1, 1}})
	wantAfter(t, d, [2]string{"field 16", "ok"}, [2]string{"take 15", "15"}, [2]string{"plus 0,15", "15,15"}, [2]string{"order", "5"}, [2]string{"value 1", "0"}, [2]string{"trace 8", "1"}, [2]string{"trace 16", "no"},
		[2]string{"power 1", "15,15"}, [2]string{"swap 15 15", "0,1"}, [2]string{"cycles", "0 1 2 3 4 5 6 7 8 9 10 11 12 13 14 15"}, [2]string{"plus 1", "1,1"}, [2]string{"cycles", "0,1 2,3 4,5 6,7 8,9 10,11 12,13 14,15"})
	wantAfter(t, d, [2]string{"field 9", "ok"}, [2]string{"power 2", "0,0,1"}, [2]string{"value 3", "2"}, [2]string{"take 0,0,0,1", "0,0,0,1"}, [2]string{"kernel", "0"}, [2]string{"order", "2"},
		[2]string{"trace 4", "2"}, [2]string{"field 2", "ok"}, [2]string{"take 1,1", "1,1"}, [2]string{"cycles", "0,1"}, [2]string{"normal", "0,1"}, [2]string{"trace 1", "1"})
}
