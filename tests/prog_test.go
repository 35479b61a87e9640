package tests

import (
	"math"
	"slices"
	"testing"

	"loop.example/gemel/impl"
)

// P1. A program is read back from its text.
func TestProgramIsReadBackFromItsText(t *testing.T) {
	for _, p := range manyProgs() {
		text := impl.ProgText(p)
		if text == "" {
			t.Fatalf("no text of %v", p)
		}
		if q, ok := impl.ProgRead(text); !ok || !sameProg(p, q) {
			t.Fatalf("%q is read as %v, %v, not as %v", text, q, ok, p)
		}
	}
}

func TestTextOfEachKind(t *testing.T) {
	p := impl.Prog{Methods: []impl.Method{
		{Temps: 3, Ops: []impl.Op{{Kind: 1}, {Kind: 1, A: 99}, {Kind: 2, A: 2}, {Kind: 3}, {Kind: 4}, {Kind: 5}, {Kind: 6}, {Kind: 7, A: 11}, {Kind: 8}, {Kind: 9, A: 1}, {Kind: 10}, {Kind: 11}}},
		{Args: 1, Temps: 2, Ops: []impl.Op{{Kind: 12}, {Kind: 13, A: 3}, {Kind: 14, A: 3}, {Kind: 15}, {Kind: 16}, {Kind: 17}, {Kind: 18}}},
		{Args: 2, Temps: 4},
	}}
	if text := impl.ProgText(p); text != eachKindText {
		t.Errorf("%q, not %q", text, eachKindText)
	}
	if q, ok := impl.ProgRead(eachKindText); !ok || !sameProg(p, q) {
		t.Errorf("read as %v, %v", q, ok)
	}
	if text := impl.ProgText(longestProg()); text != longestText() {
		t.Errorf("the longest is %q", text)
	}
}

// P2. A program has just one text: whatever is read is written the same again.
func TestProgramHasJustOneText(t *testing.T) {
	for _, text := range []string{
		"method 0 1\nnum 10\nset 0\nhere\ncall 1\nsay\njump 5\nmethod 1 2\ntemp 0\npeek 3\nret\n",
		"method 0 0\nmethod 2 2\npoke 0\nzero 0\nwhere\n",
	} {
		if _, ok := impl.ProgRead(text); !ok {
			t.Fatalf("%q is not read", text)
		}
		for at := range len(text) + 1 {
			for _, changed := range changedAt(text, at) {
				checkJustOneText(t, changed)
			}
		}
	}
}

// changedAt is a text with a byte less, other, or more at a place.
func changedAt(text string, at int) []string {
	var out []string
	for b := range 256 {
		out = append(out, text[:at]+string([]byte{byte(b)})+text[at:])
		if at < len(text) {
			out = append(out, text[:at]+string([]byte{byte(b)})+text[at+1:])
		}
	}
	if at < len(text) {
		out = append(out, text[:at]+text[at+1:])
	}
	return out
}

func checkJustOneText(t *testing.T, text string) {
	t.Helper()
	p, ok := impl.ProgRead(text)
	if !ok && len(p.Methods) != 0 {
		t.Errorf("%q: false, and %v", text, p)
	}
	if ok && (!impl.ProgOk(p) || impl.ProgText(p) != text) {
		t.Errorf("%q is read, and written %q", text, impl.ProgText(p))
	}
}

func TestTextsOfNoProgram(t *testing.T) {
	for _, text := range noProgTexts() {
		if p, ok := impl.ProgRead(text); ok || len(p.Methods) != 0 {
			t.Errorf("%.80q is read as %v, %v", text, p, ok)
		}
	}
}

// P3. Two ok programs are the same just if their texts are.
func TestSameProgramsHaveTheSameText(t *testing.T) {
	seen := map[string]impl.Prog{}
	for _, p := range append(manyProgs(), neighbours()...) {
		text := impl.ProgText(p)
		if text != impl.ProgText(copyProg(p)) {
			t.Fatalf("two texts of %v", p)
		}
		if q, ok := seen[text]; ok && !sameProg(p, q) {
			t.Fatalf("%v and %v are both %q", p, q, text)
		}
		seen[text] = p
	}
	if impl.ProgText(impl.Prog{Methods: []impl.Method{{}}}) != impl.ProgText(impl.Prog{Methods: []impl.Method{{Ops: []impl.Op{}}}}) {
		t.Error("a nil list and an empty one are written in two ways")
	}
}

// neighbours are ok programs that differ from each other in one thing only.
func neighbours() []impl.Prog {
	base := impl.Prog{Methods: []impl.Method{
		{Temps: 2, Ops: []impl.Op{{Kind: impl.OpNum, A: 1}, {Kind: impl.OpTemp, A: 1}, {Kind: impl.OpCall, A: 1}}},
		{Args: 1, Temps: 2, Ops: []impl.Op{{Kind: impl.OpPeek, A: 0}}},
	}}
	out := []impl.Prog{base}
	change := func(f func(p *impl.Prog)) {
		p := copyProg(base)
		f(&p)
		out = append(out, p)
	}
	change(func(p *impl.Prog) { p.Methods[0].Temps = 3 })
	change(func(p *impl.Prog) { p.Methods[1].Args = 2 })
	change(func(p *impl.Prog) { p.Methods[1].Ops[0].Kind = impl.OpPoke })
	change(func(p *impl.Prog) { p.Methods[0].Ops[0].A = 11 })
	change(func(p *impl.Prog) { p.Methods[0].Ops[2].A = 0 })
	change(func(p *impl.Prog) { p.Methods[0].Ops = p.Methods[0].Ops[:2] })
	change(func(p *impl.Prog) { p.Methods = append(p.Methods, impl.Method{}) })
	change(func(p *impl.Prog) { // the same operations, shared out in another way
		p.Methods[1].Ops = append(slices.Clone(p.Methods[0].Ops[1:]), p.Methods[1].Ops...)
		p.Methods[0].Ops = p.Methods[0].Ops[:1]
	})
	return out
}

func TestProgramThatIsNotOkHasNoText(t *testing.T) {
	for _, p := range []impl.Prog{
		{},
		{Methods: make([]impl.Method, 5)},
		{Methods: []impl.Method{{Args: 1, Temps: 1}}},
		{Methods: []impl.Method{{Ops: []impl.Op{{Kind: 0}}}}},
		{Methods: []impl.Method{{Ops: []impl.Op{{Kind: 19}}}}},
		{Methods: []impl.Method{{Ops: []impl.Op{{Kind: impl.OpRet, A: 1}}}}},
	} {
		if impl.ProgOk(p) || impl.ProgText(p) != "" {
			t.Errorf("%v: %v, %q", p, impl.ProgOk(p), impl.ProgText(p))
		}
	}
}

// P4. With a method more a program is ok just if there is room; without any it is not.
func TestMethodMore(t *testing.T) {
	for _, p := range manyProgs() {
		for _, m := range []impl.Method{{}, {Args: 2, Temps: 4, Ops: []impl.Op{{Kind: impl.OpHere}, {Kind: impl.OpCall, A: len(p.Methods)}}}} {
			q := copyProg(p)
			q.Methods = append(q.Methods, m)
			if !impl.ProgOk(p) || impl.ProgOk(q) != (len(p.Methods) < 4) {
				t.Fatalf("%v: %v, with %v more %v", p, impl.ProgOk(p), m, impl.ProgOk(q))
			}
		}
	}
	if impl.ProgOk(impl.Prog{}) || impl.ProgOk(impl.Prog{Methods: []impl.Method{}}) {
		t.Error("ok without any method")
	}
}

func TestLimitsOfMethods(t *testing.T) {
	for args := -2; args <= 4; args++ {
		for temps := -2; temps <= 6; temps++ {
			m := impl.Method{Args: args, Temps: temps}
			form := 0 <= args && args <= 2 && args <= temps && temps <= 4
			if got := impl.ProgOk(impl.Prog{Methods: []impl.Method{m}}); got != (form && args == 0) {
				t.Errorf("first method %v: %v", m, got)
			}
			if got := impl.ProgOk(impl.Prog{Methods: []impl.Method{{}, m}}); got != form {
				t.Errorf("second method %v: %v", m, got)
			}
		}
	}
	for size := range 18 {
		p := impl.Prog{Methods: []impl.Method{{}, {Ops: opsOf(size, impl.Op{Kind: impl.OpHere})}}}
		if impl.ProgOk(p) != (size <= 14) {
			t.Errorf("%d operations: %v", size, impl.ProgOk(p))
		}
	}
	for size := range 8 {
		if got := impl.ProgOk(impl.Prog{Methods: make([]impl.Method, size)}); got != (1 <= size && size <= 4) {
			t.Errorf("%d methods: %v", size, got)
		}
	}
}

// What belongs to which operation: each A about each limit, of each Kind and of none, in methods of other sizes.
func TestWhatBelongsToOperations(t *testing.T) {
	for methods := 1; methods <= 4; methods++ {
		for temps := 0; temps <= 4; temps++ {
			for size := 1; size <= 14; size++ {
				m := impl.Method{Temps: temps, Ops: opsOf(size, impl.Op{Kind: impl.OpHere})}
				p := impl.Prog{Methods: make([]impl.Method, methods)}
				p.Methods[methods-1] = m
				checkLastOp(t, p, m)
			}
		}
	}
}

func checkLastOp(t *testing.T, p impl.Prog, m impl.Method) {
	last := &m.Ops[len(m.Ops)-1]
	for _, kind := range []int{math.MinInt, -1, 0, 19, 20, 256 + impl.OpHere, math.MaxInt} {
		if *last = (impl.Op{Kind: kind}); impl.ProgOk(p) {
			t.Errorf("ok with Kind %d", kind)
		}
	}
	for _, row := range kindRows {
		places := ownedBy(row, p, m)
		for _, a := range []int{math.MinInt, -1, 0, 1, 2, 3, 4, 5, 13, 14, 99, 100, places - 1, places, math.MaxInt} {
			*last = impl.Op{Kind: row.kind, A: a}
			if impl.ProgOk(p) != (0 <= a && a < places) {
				t.Errorf("%s %d in %v: %v", row.word, a, p, impl.ProgOk(p))
			}
		}
	}
}

// P5. OpTakes tells at most two values, and one left; of a call its method's arguments.
func TestOpTakes(t *testing.T) {
	p := impl.Prog{Methods: []impl.Method{{}, {Args: 1, Temps: 1}, {Args: 2, Temps: 4}}}
	for _, row := range kindRows {
		for _, a := range []int{0, 1, 2} {
			takes := row.takes
			if row.kind == impl.OpCall {
				takes = a
			}
			if x, y := impl.OpTakes(p, impl.Op{Kind: row.kind, A: a}); x != takes || y != row.leaves {
				t.Errorf("%s %d: %d, %d", row.word, a, x, y)
			}
		}
	}
	for _, p := range manyProgs() {
		for _, m := range p.Methods {
			for _, op := range m.Ops {
				if x, y := impl.OpTakes(p, op); x < 0 || x > 2 || y < 0 || y > 1 {
					t.Fatalf("%v of %v: %d, %d", op, p, x, y)
				}
			}
		}
		for a, m := range p.Methods {
			if x, y := impl.OpTakes(p, impl.Op{Kind: impl.OpCall, A: a}); x != m.Args || y != 1 {
				t.Fatalf("call %d of %v: %d, %d", a, p, x, y)
			}
		}
	}
}

func TestOpTakesOfNone(t *testing.T) {
	p := impl.Prog{Methods: []impl.Method{{}, {Args: 2, Temps: 2}}}
	for _, op := range []impl.Op{
		{}, {Kind: -1}, {Kind: 19}, {Kind: 19, A: 1}, {Kind: math.MinInt}, {Kind: math.MaxInt},
		{Kind: impl.OpCall, A: -1}, {Kind: impl.OpCall, A: 2}, {Kind: impl.OpCall, A: math.MinInt}, {Kind: impl.OpCall, A: math.MaxInt},
	} {
		if x, y := impl.OpTakes(p, op); x != 0 || y != 0 {
			t.Errorf("%v: %d, %d", op, x, y)
		}
	}
	if x, y := impl.OpTakes(impl.Prog{}, impl.Op{Kind: impl.OpCall}); x != 0 || y != 0 {
		t.Errorf("call without any method: %d, %d", x, y)
	}
	if x, y := impl.OpTakes(impl.Prog{}, impl.Op{Kind: impl.OpBack, A: 7}); x != 2 || y != 1 {
		t.Errorf("back: %d, %d", x, y)
	}
}

// No two lists of an answer share memory, spare room included.
func TestReadListsShareNothing(t *testing.T) {
	text := "method 0 0\nhere\nhere\nhere\nmethod 0 0\nnum 1\nmethod 0 0\nnum 2\n"
	p, ok := impl.ProgRead(text)
	if !ok {
		t.Fatal(text)
	}
	for i := range p.Methods {
		spare := p.Methods[i].Ops[:cap(p.Methods[i].Ops)]
		for j := len(p.Methods[i].Ops); j < len(spare); j++ {
			spare[j] = impl.Op{Kind: impl.OpWhere}
		}
	}
	if impl.ProgText(p) != text {
		t.Errorf("%q", impl.ProgText(p))
	}
}

// Nothing is written into an argument, or behind its end.
func TestArgumentsStayAsTheyAre(t *testing.T) {
	ops := opsOf(6, impl.Op{Kind: impl.OpDead})
	methods := []impl.Method{{Ops: ops[:3]}, {Args: 9}}
	p := impl.Prog{Methods: methods[:1]}
	impl.ProgOk(p)
	impl.ProgText(p)
	impl.OpTakes(p, impl.Op{Kind: impl.OpCall})
	if !slices.Equal(ops, opsOf(6, impl.Op{Kind: impl.OpDead})) || methods[1].Args != 9 || len(methods[0].Ops) != 3 {
		t.Errorf("%v, %v", ops, methods)
	}
}
