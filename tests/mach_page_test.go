package tests

import (
	"fmt"
	"strings"
	"testing"

	"loop.example/gemel/impl"
)

// form writes how a machine's calls are laid out: of each page its Base and its frames' twins (a dash: none), Order, and of each twin
// its page and frame, or who called it (a dash: nobody), or that it is Dead.
func form(m impl.Mach) string {
	number := func(n int) string {
		if n == -1 {
			return "-"
		}
		return fmt.Sprint(n)
	}
	var parts []string
	for _, page := range m.Pages {
		text := number(page.Base) + "["
		for i, f := range page.Frames {
			if i > 0 {
				text += " "
			}
			text += number(f.Twin)
		}
		parts = append(parts, text+"]")
	}
	parts = append(parts, fmt.Sprint(m.Order), "now "+number(m.Now))
	for i, x := range m.Twins {
		switch {
		case x.Page != -1:
			parts = append(parts, fmt.Sprintf("%d=%d.%d", i, x.Page, x.At))
		case x.Left.Dead:
			parts = append(parts, fmt.Sprintf("%d dead", i))
		default:
			parts = append(parts, fmt.Sprintf("%d<%s", i, number(x.Left.Sender)))
		}
	}
	return strings.Join(parts, ", ")
}

// checkForms runs a program on pages, and asks for its form after so many operations each.
func checkForms(t *testing.T, p impl.Prog, shape machShape, want map[int]string) {
	t.Helper()
	for steps, text := range want {
		m := ranMach(t, p, shape.rooms, shape.cells, steps)
		if got := form(m); got != text {
			t.Errorf("%v after %d: %s, not %s", shape, steps, got, text)
		}
		sameAsHeap(t, p, m, ranHeap(t, p, steps))
	}
}

// A page that is filled exactly, and one that has a cell too few.
func TestPageFilledExactly(t *testing.T) {
	for temps, head := range []string{"method 0 0", "method 0 1", "method 0 2", "method 0 3", "method 0 4"} {
		p := readProg(t, "method 0 2", "call 1", "ret", head, "num 1", "ret")
		fits := 12 + 10 + temps
		for cells := 14; cells <= 60; cells++ {
			want := "-[0], 0[-], [0 1], now 1, 0=0.0"
			if cells >= fits {
				want = "-[- -], -[], [1 0], now 0"
			}
			if got := form(ranMach(t, p, 2, cells, 1)); got != want {
				t.Errorf("%d temps, %d cells: %s, not %s", temps, cells, got, want)
			}
		}
	}
	// Six frames without temps fill the greatest page.
	p := readProg(t, "method 0 0", "call 0", "ret")
	checkForms(t, p, machShape{2, 60}, map[int]string{
		5: "-[- - - - - -], -[], [1 0], now 0",
		6: "-[- - - - - 0], 0[-], [0 1], now 1, 0=0.5",
	})
	checkForms(t, p, machShape{2, 59}, map[int]string{
		4: "-[- - - - -], -[], [1 0], now 0",
		5: "-[- - - - 0], 0[-], [0 1], now 1, 0=0.4",
	})
	// One with all temps fills the least page.
	checkForms(t, readProg(t, "method 0 4", "call 0", "ret"), machShape{2, 14}, map[int]string{
		0: "-[-], -[], [1 0], now 0",
		1: "-[0], 0[-], [0 1], now 1, 0=0.0",
	})
}

// The one page is flushed while it runs: its last frame gets a twin first, then the others, from the lowest on.
func TestPageFlushedWhileItRuns(t *testing.T) {
	p := readProg(t, "method 0 0", "call 1", "ret", "method 0 0", "call 2", "ret", "method 0 0", "call 3", "ret", "method 0 0", "num 7", "ret")
	checkForms(t, p, machShape{1, 30}, map[int]string{
		2: "-[- - -], [0], now 0",
		3: "0[-], [0], now 0, 0<2, 1<-, 2<1",
		4: "0[-], [0], now 0, 0<2, 1<-, 2<1",
		5: "2[0], [0], now 0, 0=0.0, 1<-, 2<1",
		6: "1[2], [0], now 0, 0 dead, 1<-, 2=0.0",
		7: "-[1], [0], now 0, 0 dead, 1=0.0, 2 dead",
		8: "-[], [0], now -, 0 dead, 1 dead, 2 dead",
	})
	m := ranMach(t, p, 1, 30, 3)
	for number, method := range []int{2, 0, 1} {
		if left := m.Twins[number].Left; left.Method != method || left.Pc != 1 || len(left.Stack) != 0 || left.Dead {
			t.Errorf("twin %d: %v", number, left)
		}
	}
}

// The first page without frames is taken; if there is none the first of Order, which is not the one that runs, is flushed.
func TestWhichPageIsTaken(t *testing.T) {
	deep := readProg(t, "method 0 4", "call 0", "ret")
	checkForms(t, deep, machShape{3, 14}, map[int]string{
		0: "-[-], -[], -[], [1 2 0], now 0",
		1: "-[0], 0[-], -[], [2 0 1], now 1, 0=0.0",
		2: "-[0], 0[1], 1[-], [0 1 2], now 2, 0=0.0, 1=1.0",
		3: "2[-], 0[1], 1[2], [1 2 0], now 0, 0<-, 1=1.0, 2=2.0",
		4: "2[3], 3[-], 1[2], [2 0 1], now 1, 0<-, 1<0, 2=2.0, 3=0.0",
		5: "2[3], 3[4], 4[-], [0 1 2], now 2, 0<-, 1<0, 2<1, 3=0.0, 4=1.0",
	})
	// Two calls are returned from, and two made again: the pages that are left are taken in the order in which they are.
	p := readProg(t,
		"method 0 4", "call 1", "drop", "call 1", "ret",
		"method 0 4", "call 2", "ret",
		"method 0 4", "num 3", "ret")
	checkForms(t, p, machShape{4, 14}, map[int]string{
		2: "-[0], 0[1], 1[-], -[], [3 0 1 2], now 2, 0=0.0, 1=1.0",
		4: "-[0], 0[1], -[], -[], [3 0 2 1], now 1, 0=0.0, 1=1.0",
		5: "-[0], -[], -[], -[], [3 2 1 0], now 0, 0=0.0, 1 dead",
		7: "-[0], -[], -[], 0[-], [2 1 0 3], now 3, 0=0.0, 1 dead",
		8: "-[0], -[], 2[-], 0[2], [1 0 3 2], now 2, 0=0.0, 1 dead, 2=3.0",
	})
}

// One returns to who called it on another page, or, if that one is on none, on its own.
func TestReturnOverSeveralPages(t *testing.T) {
	p := readProg(t,
		"method 0 4", "call 1", "ret",
		"method 0 4", "call 2", "ret",
		"method 0 4", "call 3", "ret",
		"method 0 4", "num 7", "ret")
	checkForms(t, p, machShape{2, 14}, map[int]string{
		3: "1[2], 2[-], [0 1], now 1, 0<-, 1<0, 2=0.0",
		5: "1[2], -[], [1 0], now 0, 0<-, 1<0, 2=0.0",
		6: "0[1], -[], [1 0], now 0, 0<-, 1=0.0, 2 dead",
		7: "-[0], -[], [1 0], now 0, 0=0.0, 1 dead, 2 dead",
		8: "-[], -[], [1 0], now -, 0 dead, 1 dead, 2 dead",
	})
	checkForms(t, p, machShape{4, 14}, map[int]string{
		3: "-[0], 0[1], 1[2], 2[-], [0 1 2 3], now 3, 0=0.0, 1=1.0, 2=2.0",
		5: "-[0], 0[1], 1[2], -[], [0 1 3 2], now 2, 0=0.0, 1=1.0, 2=2.0",
		6: "-[0], 0[1], -[], -[], [0 3 2 1], now 1, 0=0.0, 1=1.0, 2 dead",
		7: "-[0], -[], -[], -[], [3 2 1 0], now 0, 0=0.0, 1 dead, 2 dead",
		8: "-[], -[], -[], -[], [3 2 1 0], now -, 0 dead, 1 dead, 2 dead",
	})
	// A page that waits is flushed: who called is on no page then, and comes to the page that runs.
	m := flushMach(t, p, ranMach(t, p, 4, 14, 3), 2)
	if got := form(m); got != "-[0], 0[1], -[], 2[-], [0 1 2 3], now 3, 0=0.0, 1=1.0, 2<1" {
		t.Error(got)
	}
	m = runMach(t, p, m, 2)
	if got := form(m); got != "-[0], 0[1], -[], 1[2], [0 1 2 3], now 3, 0=0.0, 1=1.0, 2=3.0" {
		t.Error(got)
	}
	if m = runMach(t, p, m, 1); form(m) != "-[0], 0[1], -[], -[], [0 2 3 1], now 1, 0=0.0, 1=1.0, 2 dead" {
		t.Error(form(m))
	}
}

// backProg calls so deep that several pages are filled, and goes back to the call that is this number of callers up.
func backProg(t *testing.T, up int) impl.Prog {
	t.Helper()
	ops := []string{"method 0 0", "here"}
	for range up {
		ops = append(ops, "sender")
	}
	ops = append(ops, "num 9", "back", "ret")
	return readProg(t, append([]string{
		"method 0 0", "call 1", "ret",
		"method 0 0", "call 2", "ret",
		"method 0 0", "call 3", "ret"}, ops...)...)
}

// One goes back over several pages, to a frame in the middle of a page, to one on no page, and to itself.
func TestBackOverSeveralPages(t *testing.T) {
	for _, x := range []struct {
		up    int
		shape machShape
		ahead string
		want  string
	}{
		{0, machShape{2, 20}, "-[- 0], 0[- 1], [0 1], now 1, 0=0.1, 1=1.1", "-[- 0], 0[- 1], [0 1], now 1, 0=0.1, 1=1.1"},
		{1, machShape{2, 20}, "-[- 0], 0[2 1], [0 1], now 1, 0=0.1, 1=1.1, 2=1.0", "-[- 0], 0[2], [0 1], now 1, 0=0.1, 1 dead, 2=1.0"},
		{2, machShape{2, 20}, "-[- 0], 0[2 1], [0 1], now 1, 0=0.1, 1=1.1, 2=1.0", "-[- 0], -[], [1 0], now 0, 0=0.1, 1 dead, 2 dead"},
		{3, machShape{2, 20}, "-[3 0], 0[2 1], [0 1], now 1, 0=0.1, 1=1.1, 2=1.0, 3=0.0", "-[3], -[], [1 0], now 0, 0 dead, 1 dead, 2 dead, 3=0.0"},
		{3, machShape{4, 14}, "-[0], 0[1], 1[2], 2[3], [0 1 2 3], now 3, 0=0.0, 1=1.0, 2=2.0, 3=3.0",
			"-[0], -[], -[], -[], [3 2 1 0], now 0, 0=0.0, 1 dead, 2 dead, 3 dead"},
		{2, machShape{1, 14}, "2[3], [0], now 0, 0<-, 1<0, 2<1, 3=0.0", "0[1], [0], now 0, 0<-, 1=0.0, 2 dead, 3 dead"},
		{3, machShape{1, 14}, "2[3], [0], now 0, 0<-, 1<0, 2<1, 3=0.0", "-[0], [0], now 0, 0=0.0, 1 dead, 2 dead, 3 dead"},
		{3, machShape{2, 14}, "1[2], 2[3], [0 1], now 1, 0<-, 1<0, 2=0.0, 3=1.0", "-[0], -[], [1 0], now 0, 0=0.0, 1 dead, 2 dead, 3 dead"},
		{3, machShape{1, 30}, "0[3], [0], now 0, 0<2, 1<-, 2<1, 3=0.0", "-[1], [0], now 0, 0 dead, 1=0.0, 2 dead, 3 dead"},
		{3, machShape{1, 60}, "-[3 2 1 0], [0], now 0, 0=0.3, 1=0.2, 2=0.1, 3=0.0", "-[3], [0], now 0, 0 dead, 1 dead, 2 dead, 3=0.0"},
	} {
		p := backProg(t, x.up)
		steps := 3 + 1 + x.up + 1
		checkForms(t, p, x.shape, map[int]string{steps: x.ahead, steps + 1: x.want})
		m := ranMach(t, p, x.shape.rooms, x.shape.cells, steps+1)
		if f := modelTop(&m); f.Method != 3-x.up || len(f.Stack) != 1 || f.Stack[0] != number(9) || m.Code != 0 {
			t.Errorf("%d up on %v: %v", x.up, x.shape, f)
		}
	}
}

// A twin is had only by what is looked at, or must have one.
func TestWhoHasATwin(t *testing.T) {
	p := readProg(t,
		"method 0 0", "call 1", "ret",
		"method 0 0", "here", "here", "same", "drop", "here", "sender", "sender", "drop", "num 1", "call 2", "add", "ret",
		"method 0 0", "here", "sender", "drop", "num 4", "ret")
	checkForms(t, p, machShape{2, 60}, map[int]string{
		1:  "-[- -], -[], [1 0], now 0",
		2:  "-[- 0], -[], [1 0], now 0, 0=0.1",
		3:  "-[- 0], -[], [1 0], now 0, 0=0.1",
		6:  "-[- 0], -[], [1 0], now 0, 0=0.1",
		7:  "-[1 0], -[], [1 0], now 0, 0=0.1, 1=0.0",
		8:  "-[1 0], -[], [1 0], now 0, 0=0.1, 1=0.0",
		11: "-[1 0 -], -[], [1 0], now 0, 0=0.1, 1=0.0",
		12: "-[1 0 2], -[], [1 0], now 0, 0=0.1, 1=0.0, 2=0.2",
		13: "-[1 0 2], -[], [1 0], now 0, 0=0.1, 1=0.0, 2=0.2",
		16: "-[1 0], -[], [1 0], now 0, 0=0.1, 1=0.0, 2 dead",
	})
	// Who called is asked for across pages: that one must have a twin as it is.
	checkForms(t, p, machShape{2, 14}, map[int]string{
		1:  "-[0], 0[-], [0 1], now 1, 0=0.0",
		2:  "-[0], 0[1], [0 1], now 1, 0=0.0, 1=1.0",
		7:  "-[0], 0[1], [0 1], now 1, 0=0.0, 1=1.0",
		11: "1[-], 0[1], [1 0], now 0, 0<-, 1=1.0",
		13: "1[2], 0[1], [1 0], now 0, 0<-, 1=1.0, 2=0.0",
		16: "-[], 0[1], [0 1], now 1, 0<-, 1=1.0, 2 dead",
	})
}

// Pages with several frames, some with a twin and some without, one that runs, and one without frames, are flushed by name.
func TestFlushedByName(t *testing.T) {
	p := backProg(t, 1)
	m := ranMach(t, p, 3, 20, 5)
	for _, x := range []struct {
		page int
		want string
	}{
		{0, "-[], 0[2 1], -[], [2 0 1], now 1, 0<3, 1=1.1, 2=1.0, 3<-"},
		{1, "-[- 0], 2[1], -[], [2 0 1], now 1, 0=0.1, 1=1.0, 2<0"},
		{2, "-[- 0], 0[2 1], -[], [2 0 1], now 1, 0=0.1, 1=1.1, 2=1.0"},
	} {
		out := flushMach(t, p, m, x.page)
		if got := form(out); got != x.want {
			t.Errorf("page %d: %s, not %s", x.page, got, x.want)
		}
		sameAsHeap(t, p, out, ranHeap(t, p, 5))
		sameAsHeap(t, p, runMach(t, p, out, 400), ranHeap(t, p, 400))
	}
	// A frame without a twin gets one, though it stays on the page.
	first := newMach(t, p, 1, 14)
	if out := flushMach(t, p, first, 0); form(out) != "-[0], [0], now 0, 0=0.0" {
		t.Error(form(out))
	}
}

// Where a call is, and whether it is Dead, is told the same of a frame, of one that is flushed, and of one that has returned.
func TestLookedAtOnPagesAndOff(t *testing.T) {
	lines := []string{
		"method 0 3", "num 6", "set 0", "here", "call 1", "set 1", "temp 1", "where", "say", "temp 1", "dead", "say", "temp 0", "ret",
		"method 1 2", "temp 0", "call 2", "drop", "here", "ret",
		"method 1 1", "temp 0", "peek 0", "say", "temp 0", "where", "say", "temp 0", "dead", "say", "temp 0", "num 8", "poke 0", "num 1", "ret",
	}
	want := vals(number(6), number(4), number(0), number(5), number(1), number(8))
	for rooms := 1; rooms <= 4; rooms++ {
		for cells := 14; cells <= 60; cells++ {
			m := ranMach(t, readProg(t, lines...), rooms, cells, 400)
			if m.Code != 1 || fmt.Sprint(m.Said) != fmt.Sprint(want) {
				t.Fatalf("%d pages of %d cells: %v, %d", rooms, cells, m.Said, m.Code)
			}
		}
	}
}
