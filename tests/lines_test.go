package tests

import (
	"math"
	"math/rand"
	"regexp"
	"slices"
	"strings"
	"sync"
	"testing"

	"loop.example/gemel/impl"
)

// P109, P110. A text is told what the heap says, how it stands, how many were born, and wait.
func TestLinesByTheWords(t *testing.T) {
	t.Parallel()
	r := rand.New(rand.NewSource(17))
	for _, p := range lineProgs(t) {
		text, lines := impl.ProgText(p), modelLines(p)
		asked := []int{0, 1, len(lines) - 2, len(lines) - 1, len(lines), 399, 400, r.Intn(401), r.Intn(len(lines)), r.Intn(len(lines)), r.Intn(len(lines))}
		for _, steps := range asked {
			if steps < 0 || steps > 400 {
				continue
			}
			if got := linesRun(t, text, steps); got != lineAt(lines, steps) {
				t.Fatalf("%q, %d operations: %q, not %q", text, steps, got, lineAt(lines, steps))
			}
		}
	}
}

// P109, P110. The same of the program's own heap, after each of many numbers of operations.
func TestLinesByHeapRun(t *testing.T) {
	t.Parallel()
	met := tally{}
	r := rand.New(rand.NewSource(18))
	for _, p := range lineProgs(t) {
		text := impl.ProgText(p)
		for _, steps := range []int{0, 1, 2 + r.Intn(9), 5 + r.Intn(40), 40 + r.Intn(361), 400} {
			h := ranHeap(t, p, steps)
			want := modelLine(h)
			if got := linesRun(t, text, steps); got != want {
				t.Fatalf("%q, %d operations: %q, not %q", text, steps, got, want)
			}
			met.add(lineMet(h))
		}
	}
	met.ask(t, 5)
}

// P109, P110. Operation by operation, to the end or as far as may be.
func TestLinesOfEachOperation(t *testing.T) {
	t.Parallel()
	met := tally{}
	for _, text := range slices.Concat(heapTexts, lineTexts) {
		p := readProg(t, strings.TrimSuffix(text, "\n"))
		h, lines := modelFirst(p), modelLines(p)
		for steps := range 401 {
			if got := linesRun(t, text, steps); got != lineAt(lines, steps) || got != modelLine(h) {
				t.Fatalf("%q, %d operations: %q, not %q, %q", text, steps, got, lineAt(lines, steps), modelLine(h))
			}
			met.add(lineMet(h))
			h = modelStep(p, h)
		}
	}
	met.ask(t, 20)
}

// lineCase is a text, a number of operations, and what is told then.
type lineCase struct {
	text  string
	steps int
	want  string
}

// P109. What is said: nothing, nothing as a value, numbers, and calls by their methods.
func TestLinesOfWhatIsSaid(t *testing.T) {
	says := "method 0 2\ntemp 1\nsay\nnum 0\nsay\nhere\nsay\ncall 3\nsay\nnum 99\nret\nmethod 0 0\nmethod 0 0\nmethod 0 0\nhere\nret\n"
	adds := "method 0 1\nnum 99\nset 0\ntemp 0\ntemp 0\nadd\nset 0\ntemp 0\nsay\njump 2\n"
	for _, x := range []lineCase{
		{says, 0, "runs 1 1"},
		{says, 1, "runs 1 1"},
		{says, 2, "none;runs 1 1"},
		{says, 3, "none;runs 1 1"},
		{says, 4, "none;0;runs 1 1"},
		{says, 6, "none;0;call 0;runs 1 1"},
		{says, 7, "none;0;call 0;runs 2 2"},
		{says, 9, "none;0;call 0;runs 2 1"},
		{says, 10, "none;0;call 0;call 3;runs 2 1"},
		{says, 11, "none;0;call 0;call 3;runs 2 1"},
		{says, 12, "none;0;call 0;call 3;99;ended 2 0"},
		{says, 400, "none;0;call 0;call 3;99;ended 2 0"},
		{adds, 30, "198;396;792;584;runs 1 1"},
		{"method 0 1\ntemp 0\nret\n", 2, "none;ended 1 0"},
		{"method 0 0\nhere\nret\n", 2, "call 0;ended 1 0"},
		{"method 0 0\nnum 7\nret\n", 2, "7;ended 1 0"},
		{"method 0 0\ncall 1\nret\nmethod 0 0\nhere\nret\n", 4, "call 1;ended 2 0"},
		{"method 0 0\nnum 1\nsay\njump 0\n", 400, strings.Repeat("1;", 133) + "runs 1 1"},
		{"method 0 0\nnum 1\nsay\njump 0\n", 398, strings.Repeat("1;", 133) + "runs 1 1"},
		{"method 0 0\nnum 1\nsay\njump 0\n", 397, strings.Repeat("1;", 132) + "runs 1 1"},
	} {
		if got := linesRun(t, x.text, x.steps); got != x.want {
			t.Errorf("%q, %d operations: %q, not %q", x.text, x.steps, got, x.want)
		}
	}
}

// P110. How it stands: one that runs on, has ended, is stuck, or is full; how many were born, and wait.
func TestLinesOfHowItStands(t *testing.T) {
	itself := "method 0 0\ncall 0\n"
	five := "method 0 0\ncall 1\ndrop\njump 0\nmethod 0 0\nnum 5\nret\n"
	within := "method 0 0\ncall 1\nret\nmethod 0 4\ncall 2\nret\nmethod 0 4\nnum 1\nnum 2\nadd\nadd\n"
	back := "method 0 1\nhere\ncall 1\nsay\nnum 3\nret\nmethod 1 1\ntemp 0\ncall 2\nret\nmethod 1 1\ntemp 0\ncall 3\nret\nmethod 1 1\ntemp 0\nnum 9\nback\n"
	for _, x := range []lineCase{
		{"method 0 0\n", 0, "runs 1 1"},
		{"method 0 0\n", 1, "stuck 1 1"},
		{"method 0 0\n", 400, "stuck 1 1"},
		{"method 0 4\n", 1, "stuck 1 1"},
		{"method 0 0\njump 0\n", 0, "runs 1 1"},
		{"method 0 0\njump 0\n", 1, "runs 1 1"},
		{"method 0 0\njump 0\n", 400, "runs 1 1"},
		{"method 0 0\ndrop\n", 1, "stuck 1 1"},
		{"method 0 0\nhere\nnum 1\nadd\n", 2, "runs 1 1"},
		{"method 0 0\nhere\nnum 1\nadd\n", 3, "stuck 1 1"},
		{"method 0 0\nhere\njump 0\n", 12, "runs 1 1"},
		{"method 0 0\nhere\njump 0\n", 13, "stuck 1 1"},
		{itself, 28, "runs 29 29"},
		{itself, 29, "runs 30 30"},
		{itself, 30, "full 30 30"},
		{itself, 400, "full 30 30"},
		{five, 145, "runs 30 1"},
		{five, 146, "full 30 1"},
		{five, 143, "runs 30 1"},
		{five, 142, "runs 30 2"},
		{five, 400, "full 30 1"},
		{within, 1, "runs 2 2"},
		{within, 2, "runs 3 3"},
		{within, 5, "runs 3 3"},
		{within, 6, "stuck 3 3"},
		{within, 400, "stuck 3 3"},
		{back, 8, "runs 4 4"},
		{back, 9, "runs 4 1"},
		{back, 10, "9;runs 4 1"},
		{back, 12, "9;3;ended 4 0"},
		{longestText(), 0, "runs 1 1"},
		{longestText(), 1, "stuck 1 1"},
	} {
		if got := linesRun(t, x.text, x.steps); got != x.want {
			t.Errorf("%q, %d operations: %q, not %q", x.text, x.steps, got, x.want)
		}
	}
}

// numbersRefused are numbers of operations that are not done at once.
var numbersRefused = []int{math.MinInt, math.MinInt + 1, -1 << 32, -401, -400, -2, -1, 401, 402, 800, 1000, 1 << 31, 1 << 32, 1<<32 + 1, math.MaxInt - 1, math.MaxInt}

// P109. Numbers of operations that may be, and that may not: also where fewer would do, or it is stuck at once.
func TestBoundsOfLines(t *testing.T) {
	t.Parallel()
	for _, p := range lineProgs(t) {
		text := impl.ProgText(p)
		for _, steps := range numbersRefused {
			if got := linesRun(t, text, steps); got != tooManySteps {
				t.Fatalf("%q, %d operations: %q", text, steps, got)
			}
		}
		for _, steps := range []int{0, 1, 2, 399, 400} {
			if got := linesRun(t, text, steps); got == tooManySteps || got == noProgram {
				t.Fatalf("%q, %d operations: %q", text, steps, got)
			}
		}
	}
}

// manyNumbers are numbers of operations, those that may be and those that may not.
func manyNumbers() []int {
	return append([]int{0, 1, 399, 400}, numbersRefused...)
}

// P109, P111. A text that is none of a program is told so first, whatever the number of operations.
func TestLinesOfNoProgram(t *testing.T) {
	t.Parallel()
	for _, text := range noProgTexts() {
		isNoProgram(t, "no program", text, manyNumbers()...)
	}
	isNoProgram(t, "without any letter", "", manyNumbers()...)
	for _, text := range []string{"what", "method", "no program", "too many steps", "runs 1 1", "panic", "\x00", "\n\n", "\xff", "\xff\n", "\xc3\x28\n", "\xed\xa0\x80\n", "\ufffd\n"} {
		isNoProgram(t, "other texts", text, manyNumbers()...)
	}
}

// P111. With a letter, or any byte, more at its end, or at its beginning, a text is no program; nor without its last newline.
func TestLetterMore(t *testing.T) {
	t.Parallel()
	for i, p := range lineProgs(t) {
		text := impl.ProgText(p)
		isNoProgram(t, "without its last newline", text[:len(text)-1], 0, 400, 401)
		isNoProgram(t, "without its first letter", text[1:], 0, 400, 401)
		for _, letter := range "abcdefghijklmnopqrstuvwxyz" {
			isNoProgram(t, "a letter more at its end", text+string(letter), 400, -1)
			isNoProgram(t, "a letter more at its beginning", string(letter)+text, 400, -1)
		}
		if i%50 != 0 {
			continue
		}
		for b := range 256 {
			more := string([]byte{byte(b)})
			isNoProgram(t, "a byte more at its end", text+more, 0, 1, 400, 401)
			isNoProgram(t, "a byte more at its beginning", more+text, 0, 1, 400, 401)
		}
		for _, more := range []string{"\u00e4", "\u03b1", "\u4e2d", "\U0001f600", "\ufeff", "\u2028", "\xe2\x82", "\r\n"} {
			isNoProgram(t, "a rune more at its end", text+more, 0, 1, 400, 401)
			isNoProgram(t, "a rune more at its beginning", more+text, 0, 1, 400, 401)
		}
	}
}

// isWhere says whether a letter more makes another program: only here, a line of its own, gets where by one.
func isWhere(text string, at int, letter rune) bool {
	return letter == 'w' && at > 0 && text[at-1] == '\n' && strings.HasPrefix(text[at:], "here\n")
}

// P111. With a letter more inside a text is no program, unless it is another one then; so with bytes that are no runes.
func TestLetterMoreInside(t *testing.T) {
	t.Parallel()
	others := 0
	for _, text := range append([]string{eachKindText}, lineTexts...) {
		for at := range len(text) + 1 {
			for _, letter := range "abcdefghijklmnopqrstuvwxyzMETHODWHR\u00e4\u03b1" {
				more := text[:at] + string(letter) + text[at:]
				if !isWhere(text, at, letter) {
					isNoProgram(t, "a letter more inside", more, at%401, 401)
					continue
				}
				others++
				if got := linesRun(t, more, at%401); got != modelLinesRun(more, at%401) || got == noProgram {
					t.Errorf("%q, %d operations: %q", more, at%401, got)
				}
			}
			for _, bytes := range []string{"\xff", "\x80", "\xc3", "\xe2\x82", "\xed\xa0\x80", "\xf5", "\ufffd", "\x00"} {
				isNoProgram(t, "no rune inside", text[:at]+bytes+text[at:], at%401, -1)
			}
		}
	}
	if others < 5 {
		t.Errorf("only %d got where", others)
	}
}

// textOfBytes has just so many bytes, each line of it that of an operation: only that there are too many is wrong with it.
func textOfBytes(size int) string {
	text := "method 0 0\n"
	for size-len(text) > 14 {
		text += "num 9\n"
	}
	ends := map[int]string{9: "add\nsame\n", 10: "drop\ndrop\n", 11: "num 9\nback\n", 12: "num 9\nnum 9\n", 13: "num 9\nnum 99\n", 14: "num 99\nnum 99\n"}
	return text + ends[size-len(text)]
}

// P109, P111. A text of as many bytes as are read, and of more: it is no program, as none has so many.
func TestLongTexts(t *testing.T) {
	t.Parallel()
	for _, size := range []int{493, 600, 698, 699, 700, 701, 702, 1400, 70000} {
		text := textOfBytes(size)
		if len(text) != size {
			t.Fatalf("%d bytes, not %d", len(text), size)
		}
		isNoProgram(t, "too many operations", text, manyNumbers()...)
		isNoProgram(t, "letters", strings.Repeat("m", size), manyNumbers()...)
		isNoProgram(t, "newlines", strings.Repeat("\n", size), manyNumbers()...)
		isNoProgram(t, "no runes", strings.Repeat("\xff", size), manyNumbers()...)
		isNoProgram(t, "the longest, and more", longestText()+strings.Repeat("\n", size-len(longestText())), manyNumbers()...)
		isNoProgram(t, "needless zeros", "method 0 "+strings.Repeat("0", size-10)+"\n", manyNumbers()...)
	}
	if len(longestText()) != 492 || linesRun(t, longestText(), 400) != "stuck 1 1" {
		t.Errorf("the longest one of %d bytes: %q", len(longestText()), linesRun(t, longestText(), 400))
	}
	isNoProgram(t, "very long", strings.Repeat("method 0 0\nnum 1\nret\n", 1<<16), 0, 401)
}

var lineForm = regexp.MustCompile(`^((none|call [0-3]|0|[1-9][0-9]{0,2});)*(runs|ended|stuck|full) ([1-9]|[12][0-9]|30) (0|[1-9]|[12][0-9]|30)$`)

// P109, P110, P111. Texts that are programs, nearly so, and not at all, with any number of operations: none panics, and each is told
// what the document's words tell.
func TestLinesOfAnyText(t *testing.T) {
	t.Parallel()
	r := rand.New(rand.NewSource(19))
	progs, met := lineProgs(t), tally{}
	for range 30000 {
		text := spoiltText(r, impl.ProgText(progs[r.Intn(len(progs))]))
		steps := r.Intn(403) - 1
		if r.Intn(4) == 0 {
			steps = manyNumbers()[r.Intn(len(manyNumbers()))]
		}
		got, want := linesRun(t, text, steps), modelLinesRun(text, steps)
		if got != want || got != noProgram && got != tooManySteps && !lineForm.MatchString(got) {
			t.Fatalf("%q, %d operations: %q, not %q", text, steps, got, want)
		}
		met.add(map[string]bool{
			"no program": got == noProgram, "too many steps": got == tooManySteps, "a line": lineForm.MatchString(got),
			"both are wrong": got == noProgram && (steps < 0 || steps > 400),
		})
	}
	met.ask(t, 500)
	for range 20000 {
		bytes := make([]byte, r.Intn(60))
		r.Read(bytes)
		isNoProgram(t, "any bytes", string(bytes), r.Intn(403)-1, int(r.Uint64()))
	}
}

// Nothing is kept between two calls: the same text is told the same, whatever was asked in between, and however many ask at once.
func TestLinesAreNotKept(t *testing.T) {
	t.Parallel()
	var asking sync.WaitGroup
	for i, p := range lineProgs(t) {
		if i%40 != 0 {
			continue
		}
		text, steps := impl.ProgText(p), i%401
		first := linesRun(t, text, steps)
		for range 4 {
			asking.Go(func() {
				for range 3 {
					wrong, many, again := impl.LinesRun(text+"x", steps), impl.LinesRun(text, 401), impl.LinesRun(text, steps)
					if wrong != noProgram || many != tooManySteps || again != first {
						t.Errorf("%q, %d operations: %q, then %q, %q, %q", text, steps, first, wrong, many, again)
					}
				}
			})
		}
	}
	asking.Wait()
}
