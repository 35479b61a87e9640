package tests

import (
	"fmt"
	"math/rand"
	"regexp"
	"slices"
	"strconv"
	"strings"
	"testing"

	"loop.example/gemel/impl"
)

// Answers of texts that are not run.
const (
	noProgram    = "no program"
	tooManySteps = "too many steps"
)

// modelFirst is a program's first call, by the document's words.
func modelFirst(p impl.Prog) impl.Heap {
	return impl.Heap{Calls: []impl.Call{{Temps: make([]impl.Val, p.Methods[0].Temps), Sender: -1}}, Born: 1}
}

// modelLine is what is told of an ok heap, by the document's words.
func modelLine(h impl.Heap) string {
	line := ""
	for _, v := range h.Said {
		line += map[int]string{0: "none", 1: strconv.Itoa(v.Num), 2: fmt.Sprintf("call %d", v.Num)}[v.Kind] + ";"
	}
	return line + fmt.Sprintf("%s %d %d", []string{"runs", "ended", "stuck", "full"}[h.Code], h.Born, len(waiting(h)))
}

// modelLines is what is told of a program after each number of operations, by the document's words, till it does not run any more, or
// there are as many as may be.
func modelLines(p impl.Prog) []string {
	h := modelFirst(p)
	out := []string{modelLine(h)}
	for h.Code == 0 && len(out) <= 400 {
		h = modelStep(p, h)
		out = append(out, modelLine(h))
	}
	return out
}

// lineAt is what is told after so many operations, where it does not run any more behind the last of these lines.
func lineAt(lines []string, steps int) string {
	return lines[min(steps, len(lines)-1)]
}

var modelWord = regexp.MustCompile(`^([a-z]+)( (0|[1-9][0-9]?))?$`)

// modelOp is the operation that a line is; false, if it is none, whatever its A.
func modelOp(line string) (impl.Op, bool) {
	parts := modelWord.FindStringSubmatch(line)
	if parts == nil {
		return impl.Op{}, false
	}
	for _, row := range kindRows {
		if row.word == parts[1] && (row.owns != "") == (parts[2] != "") {
			a, _ := strconv.Atoi(parts[3])
			return impl.Op{Kind: row.kind, A: a}, true
		}
	}
	return impl.Op{}, false
}

var modelHead = regexp.MustCompile(`^method ([0-2]) ([0-4])$`)

// modelRead reads a text by the document's words, line by line.
func modelRead(text string) (impl.Prog, bool) {
	if len(text) > 700 || !strings.HasSuffix(text, "\n") {
		return impl.Prog{}, false
	}
	var p impl.Prog
	for _, line := range strings.Split(strings.TrimSuffix(text, "\n"), "\n") {
		if parts := modelHead.FindStringSubmatch(line); parts != nil {
			args, _ := strconv.Atoi(parts[1])
			temps, _ := strconv.Atoi(parts[2])
			p.Methods = append(p.Methods, impl.Method{Args: args, Temps: temps})
			continue
		}
		op, ok := modelOp(line)
		if !ok || len(p.Methods) == 0 {
			return impl.Prog{}, false
		}
		last := &p.Methods[len(p.Methods)-1]
		last.Ops = append(last.Ops, op)
	}
	return p, modelFits(p)
}

// modelFits says whether what was read line by line is within all limits.
func modelFits(p impl.Prog) bool {
	for i, m := range p.Methods {
		if i == 0 && m.Args > 0 || m.Temps < m.Args || len(m.Ops) > 14 {
			return false
		}
		for _, op := range m.Ops {
			if op.A >= ownedBy(kindRows[op.Kind-1], p, m) {
				return false
			}
		}
	}
	return len(p.Methods) <= 4
}

// modelLinesRun is LinesRun by the document's words, of calls as things of their own.
func modelLinesRun(text string, steps int) string {
	p, ok := modelRead(text)
	switch {
	case !ok:
		return noProgram
	case steps < 0 || steps > 400:
		return tooManySteps
	}
	return lineAt(modelLines(p), steps)
}

// linesRun tells what was asked, if it panics.
func linesRun(t *testing.T, text string, steps int) string {
	t.Helper()
	defer func() {
		if thrown := recover(); thrown != nil {
			t.Fatalf("%.900q, %d operations: it panics with %v", text, steps, thrown)
		}
	}()
	return impl.LinesRun(text, steps)
}

// isNoProgram asks that a text is told to be none of a program, whatever the number of operations.
func isNoProgram(t *testing.T, name string, text string, steps ...int) {
	t.Helper()
	for _, n := range steps {
		if got := linesRun(t, text, n); got != noProgram {
			t.Fatalf("%s: %.900q, %d operations: %q", name, text, n, got)
		}
	}
}

// lineMet tells what is met in a heap that a line is told of.
func lineMet(h impl.Heap) map[string]bool {
	says := func(kind int) bool {
		return slices.ContainsFunc(h.Said, func(v impl.Val) bool { return v.Kind == kind })
	}
	deep := len(waiting(h))
	met := map[string]bool{
		"it says nothing":                      len(h.Said) == 0,
		"it says nothing as a value":           says(0),
		"it says a number":                     says(1),
		"it says a call":                       says(2),
		"it says several":                      len(h.Said) > 2,
		"more were born than wait":             h.Born > deep && deep > 0,
		"more wait than are on pages":          deep > 6,
		"it is stuck, and several wait":        h.Code == 2 && deep > 1,
		"it is full, and not all of them wait": h.Code == 3 && deep < 30,
	}
	for word, is := range standing(h.Code, h.Born) {
		met[word] = is
	}
	return met
}

// lineTexts are programs that say, and stand, in ways that are seldom met by chance.
var lineTexts = []string{
	// Full, with one that waits, two, and all of them.
	"method 0 0\ncall 1\ndrop\njump 0\nmethod 0 0\nnum 5\nret\n",
	"method 0 0\ncall 1\nret\nmethod 0 0\ncall 2\nsay\njump 0\nmethod 0 0\nhere\nret\n",
	"method 0 0\ncall 0\n",
	// All that can be said, again and again.
	"method 0 1\nhere\nsay\nnum 99\nsay\ntemp 0\nsay\njump 0\n",
	// Calls go down far, and return one by one.
	"method 0 0\nnum 1\ncall 1\nret\nmethod 1 2\ntemp 0\nnum 98\nadd\nset 0\ntemp 0\nsay\ntemp 0\nnum 95\nsame\nzero 12\njump 13\ntemp 0\ncall 1\nret\n",
	"method 0 1\nnum 0\ncall 1\nret\nmethod 1 1\ntemp 0\nnum 9\nsame\nzero 6\nnum 3\nret\ntemp 0\nnum 1\nadd\ncall 1\nsay\ntemp 0\nret\n",
	// Back over many calls at once, to the first.
	"method 0 1\nhere\nnum 0\ncall 1\nsay\nhere\nret\nmethod 2 2\ntemp 1\nnum 8\nsame\nzero 7\ntemp 0\ntemp 1\nback\ntemp 0\ntemp 1\nnum 1\nadd\ncall 1\nret\n",
}

// lineProgs are ok programs that texts are made of.
func lineProgs(t *testing.T) []impl.Prog {
	t.Helper()
	out := heapProgs()
	for _, text := range lineTexts {
		p, ok := modelRead(text)
		if !ok {
			t.Fatalf("%q is no program", text)
		}
		out = append(out, p)
	}
	return out
}

// spoiltText is a text with some bytes less, other, or more, or with lines left out, twice, or moved: some are programs, too.
func spoiltText(r *rand.Rand, text string) string {
	for range 1 + r.Intn(3) {
		at := r.Intn(len(text) + 1)
		lines := strings.SplitAfter(text, "\n")
		line := r.Intn(len(lines))
		switch r.Intn(7) {
		case 0:
			text = text[:at] + string([]byte{byte(r.Intn(256))}) + text[at:]
		case 1:
			text = text[:at] + "0123456789 \nmethodcallwhere"[at%26:at%26+1] + text[at:]
		case 2:
			text = text[:at] + text[min(at+1, len(text)):]
		case 3:
			text = text[:at]
		case 4:
			text = strings.Join(slices.Delete(lines, line, line+1), "")
		case 5:
			text = strings.Join(slices.Insert(lines, r.Intn(len(lines)+1), lines[line]), "")
		case 6:
			to := r.Intn(len(lines))
			lines[line], lines[to] = lines[to], lines[line]
			text = strings.Join(lines, "")
		}
	}
	return text
}
