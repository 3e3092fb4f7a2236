package tests

import (
	"fmt"
	"slices"
	"strconv"
	"strings"
	"testing"

	"loop.example/g01163/impl"
)

// checkScript asks for the replies, the desk and the failed lines of a script.
func checkScript(t *testing.T, s string) {
	t.Helper()
	if !isScript(s) {
		t.Fatalf("%.60q is no script", s)
	}
	var wantReplies []string
	var wantFailed []int
	want := impl.Desk{Size: 5, Poly: []int{0, 0, 0, 1}}
	for i, done := range modelScript(s) {
		wantReplies = append(wantReplies, done.reply)
		if done.hasFailed() {
			wantFailed = append(wantFailed, i+1)
		}
		want = done.desk
	}
	replies, ok := impl.RunScript(s)
	if !ok || !slices.Equal(replies, wantReplies) {
		t.Errorf("RunScript(%q) = %q, %v, want %q", s, replies, ok, wantReplies)
	}
	d, ok := impl.DeskAfter(s)
	wantDesk(t, fmt.Sprintf("DeskAfter(%q)", s), d, ok, want)
	failed, ok := impl.FailedLines(s)
	wantList(t, fmt.Sprintf("FailedLines(%q)", s), failed, ok, wantFailed...)
}

// checkLinesOfScript executes the lines by DeskLine.
func checkLinesOfScript(t *testing.T, s string) {
	t.Helper()
	d := impl.FirstDesk()
	var replies []string
	for line := range strings.Lines(s) {
		next, reply, ok := impl.DeskLine(d, strings.TrimSuffix(line, "\n"))
		if !ok {
			t.Fatalf("DeskLine(%v, %q) fails", d, line)
		}
		d, replies = next, append(replies, reply)
	}
	got, ok := impl.RunScript(s)
	if !ok || !slices.Equal(got, replies) {
		t.Errorf("RunScript(%q) = %q, %v, and the lines reply %q", s, got, ok, replies)
	}
	after, ok := impl.DeskAfter(s)
	wantDesk(t, fmt.Sprintf("DeskAfter(%q)", s), after, ok, d)
}

// number is an element more often than another number, and seldom no number.
func (m *mixer) number(q int) string {
	switch m.below(8) {
	case 0:
		words := numberWords(q)
		return words[m.below(len(words))]
	case 1:
		words := noNumbers()
		return words[m.below(len(words))]
	case 2:
		return strconv.Itoa(m.below(30))
	}
	return strconv.Itoa(m.below(q))
}

func (m *mixer) polyText(q int) string {
	if m.below(8) > 0 {
		return plainText(m.poly(q, m.below(q+1)))
	}
	texts := noTexts(q)
	return texts[m.below(len(texts))]
}

// line has a form of the table, often with words that fit, and sometimes one byte too many or too few.
func (m *mixer) line(q int) string {
	line := lineRules[m.below(len(lineRules))].form
	if line == "field N" && m.below(6) > 0 {
		return "field " + strconv.Itoa(sizes[m.below(len(sizes))])
	}
	for strings.Contains(line, "N") {
		line = strings.Replace(line, "N", strings.ReplaceAll(m.number(q), "N", "n"), 1)
	}
	line = strings.Replace(line, "F", m.polyText(q), 1)
	i := m.below(len(line))
	switch m.below(20) {
	case 0:
		line = line[:i] + " " + line[i:]
	case 1:
		line = line[:i] + line[i+1:]
	case 2:
		line = ""
	}
	return strings.ReplaceAll(line, "\n", "")
}

// script has lines over the fields that they lead to, and short ones in place of those that are too long.
func (m *mixer) script(lines int) string {
	d, s := impl.FirstDesk(), ""
	for range lines {
		line := m.line(d.Size)
		if len(line) > 59 {
			line = "permutes"
		}
		done, _ := modelLine(d, line)
		d = done.desk
		s += line + "\n"
	}
	return s
}

func TestWrittenScripts(t *testing.T) {
	for _, row := range []struct {
		script  string
		replies []string
		failed  []int
		after   impl.Desk
	}{
		{"", nil, nil, impl.Desk{Size: 5, Poly: []int{0, 0, 0, 1}}},
		{"\n", []string{"what"}, []int{1}, impl.Desk{Size: 5, Poly: []int{0, 0, 0, 1}}},
		{"table\ncycles\norder\nplus 1\ntake 0,0,1\npermutes\ninvert\nfly\n", []string{"0,1,3,2,4", "0 1 2,3 4", "2", "1,0,0,1", "0,0,1", "1,4", "no", "what"}, []int{7, 8}, impl.Desk{Size: 5, Poly: []int{0, 0, 1}}},
		{"fly\ninvert\nfield 6\nfield 3\nfield 06\nswap 1 2\nswap 3 1\nshow\n\n", []string{"what", "0,0,0,1", "no", "ok", "what", "0,2", "no", "0,2", "what"}, []int{1, 3, 5, 7, 9}, impl.Desk{Size: 3, Poly: []int{0, 2}}},
		{"take -\nfield 2\n", []string{"-", "ok"}, nil, impl.Desk{Size: 2, Poly: []int{0, 1}}},
		{"field 2\ntake -\n", []string{"ok", "-"}, nil, impl.Desk{Size: 2}},
		{"take 4,4,4,4,4\nfield 16\nfield 5\nvalue 1\ntrace 3\nnormal \nshow\r\n\n", []string{"4,4,4,4,4", "ok", "ok", "1", "3", "what", "what", "what"}, []int{6, 7, 8}, impl.Desk{Size: 5, Poly: []int{0, 1}}},
	} {
		replies, ok := impl.RunScript(row.script)
		if !ok || !slices.Equal(replies, row.replies) {
			t.Errorf("RunScript(%q) = %q, %v, want %q", row.script, replies, ok, row.replies)
		}
		failed, ok := impl.FailedLines(row.script)
		wantList(t, fmt.Sprintf("FailedLines(%q)", row.script), failed, ok, row.failed...)
		after, ok := impl.DeskAfter(row.script)
		wantDesk(t, fmt.Sprintf("DeskAfter(%q)", row.script), after, ok, row.after)
	}
}

// TestScriptsAreTheirLines has scripts of each number of lines.
func TestScriptsAreTheirLines(t *testing.T) {
	mix := mixer(10)
	for n := range 51 {
		for range 6 {
			s := mix.script(n)
			checkScript(t, s)
			checkLinesOfScript(t, s)
		}
	}
}

// TestScriptsOverEachField has the lines of the document's table over each size, in scripts of up to 50 lines.
func TestScriptsOverEachField(t *testing.T) {
	for _, q := range sizes {
		lines := linesOver(q)
		for i := 0; i < len(lines); i += 48 {
			part := lines[i:min(i+48, len(lines))]
			checkScript(t, fmt.Sprintf("field %d\n%s\nshow\n", q, strings.Join(part, "\n")))
		}
	}
}

// TestFailedLinesAtAllPlaces has one failed line, and one line that does not fail, at each place.
func TestFailedLinesAtAllPlaces(t *testing.T) {
	for _, bad := range []string{"no", "fly", "", "field 6", "swap 5 0", "normal 1"} {
		for n := 1; n <= 50; n++ {
			for place := range n {
				one, other := slices.Repeat([]string{"show"}, n), slices.Repeat([]string{bad}, n)
				one[place], other[place] = bad, "show"
				failed, ok := impl.FailedLines(strings.Join(one, "\n") + "\n")
				wantList(t, "FailedLines", failed, ok, place+1)
				failed, ok = impl.FailedLines(strings.Join(other, "\n") + "\n")
				wantList(t, "FailedLines", failed, ok, slices.Delete(identityTable(n+1), place+1, place+2)[1:]...)
			}
		}
	}
}

// TestLimitsOfScriptsAreMetExactly has scripts of 50 lines, of 3000 bytes, and of both.
func TestLimitsOfScriptsAreMetExactly(t *testing.T) {
	long := strings.Repeat("x", 2999) + "\n"
	even := strings.Repeat(strings.Repeat("x", 59)+"\n", 50)
	late := strings.Repeat("\n", 49) + strings.Repeat(" ", 2946) + "show\n"
	if len(long) != 3000 || len(even) != 3000 || len(late) != 3000 {
		t.Fatal("the scripts have other lengths")
	}
	for _, s := range []string{long, even, late, strings.Repeat("\n", 50), strings.Repeat("show\n", 50), strings.Repeat("plus 1\n", 49), strings.Repeat("power 3\n", 50), long[1:], late[1:], strings.Repeat("x", 2994) + "\nshow\n"} {
		checkScript(t, s)
	}
	failed, ok := impl.FailedLines(even)
	wantList(t, "FailedLines", failed, ok, identityTable(51)[1:]...)
}

// failsScript asks all three functions.
func failsScript(t *testing.T, s string) {
	t.Helper()
	if replies, ok := impl.RunScript(s); ok || len(replies) != 0 {
		t.Errorf("RunScript(%.60q) = %q, %v", s, replies, ok)
	}
	if d, ok := impl.DeskAfter(s); ok || !sameDesk(d, impl.Desk{}) {
		t.Errorf("DeskAfter(%.60q) = %v, %v", s, d, ok)
	}
	failed, ok := impl.FailedLines(s)
	failsList(t, fmt.Sprintf("FailedLines(%.60q)", s), failed, ok)
}

func TestTextsThatAreNoScriptsFail(t *testing.T) {
	long := strings.Repeat("x", 2999)
	for _, s := range []string{
		" ", "x", "show", "\nshow", "show\n ", "show\nshow", "show\r", "show\n\r", "show\x00", "show\n\x00", "\r", "show\nfly\n\xff",
		strings.Repeat("\n", 51), strings.Repeat("show\n", 51), strings.Repeat("\n", 50) + "x", strings.Repeat("show\n", 50) + "show", strings.Repeat("\n", 3000), strings.Repeat("\n", 100000),
		long + "x\n", long + "\n\n", long + "xx", long + "x", long, "\n" + long, "\n" + long + "\n", strings.Repeat(strings.Repeat("x", 59)+"\n", 49) + strings.Repeat("x", 60) + "\n",
		strings.Repeat("show\n", 50) + strings.Repeat("\n", 2750), strings.Repeat("x", 1000000), strings.Repeat("x", 1000000) + "\n", strings.Repeat("show \n", 1000),
	} {
		if isScript(s) {
			t.Fatalf("%.60q is a script", s)
		}
		failsScript(t, s)
	}
}

// TestScriptsOfAnyBytes has some that are scripts and some that are none.
func TestScriptsOfAnyBytes(t *testing.T) {
	mix, met := mixer(11), map[bool]int{}
	for i := range 600 {
		s := mix.bytes(mix.below(60))
		switch i % 3 {
		case 1:
			s += "\n"
		case 2:
			s = "field 4\n" + s + "\nplus 2\n"
		}
		met[isScript(s)]++
		if isScript(s) {
			checkScript(t, s)
		} else {
			failsScript(t, s)
		}
	}
	if met[true] < 100 || met[false] < 100 {
		t.Errorf("the texts are of one kind: %v", met)
	}
}

// bytes has newlines and blanks more often than other ones.
func (m *mixer) bytes(n int) string {
	text := make([]byte, n)
	for i := range text {
		switch m.below(8) {
		case 0:
			text[i] = '\n'
		case 1:
			text[i] = ' '
		default:
			text[i] = byte(m.below(256))
		}
	}
	return string(text)
}
