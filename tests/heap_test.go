package tests

import (
	"math"
	"slices"
	"testing"

	"loop.example/gemel/impl"
)

func TestConstantsOfHeaps(t *testing.T) {
	got := []int{impl.ValNone, impl.ValNum, impl.ValCall, impl.CodeRuns, impl.CodeEnded, impl.CodeStuck, impl.CodeFull, impl.HeapBorn}
	if !slices.Equal(got, []int{0, 1, 2, 0, 1, 2, 3, 30}) {
		t.Errorf("%v", got)
	}
}

// Each step of many programs, and of heaps that were not run to, is that of the document's words, written down once more.
func TestEachStepByTheWords(t *testing.T) {
	done := map[string]int{}
	codes := map[int]int{}
	check := func(p impl.Prog, h impl.Heap, _ int) {
		want := modelStep(p, h)
		got, ok := impl.HeapStep(p, h)
		if !ok || !sameHeap(got, want) {
			t.Fatalf("%q: of %v\n%v, %v, not\n%v", impl.ProgText(p), h, got, ok, want)
		}
		if h.Code == 0 && want.Code <= 1 {
			done[kindRows[opOf(p, h).Kind-1].word]++
		}
		codes[got.Code]++
	}
	eachHeap(check)
	for _, x := range oddHeaps() {
		check(x.p, x.heaps[0], 0)
	}
	for _, row := range kindRows {
		if done[row.word] < 40 {
			t.Errorf("only %d times %s", done[row.word], row.word)
		}
	}
	for code := range 4 {
		if codes[code] < 40 {
			t.Errorf("only %d times the code %d", codes[code], code)
		}
	}
}

// P10. The call that runs has as many values as DeepAt tells, whenever. (WHENEVER.) With any other code than CodeRuns it does not run any more.
func TestAsManyValuesAsDeepAtTells(t *testing.T) {
	seen := 0
	eachHeap(func(p impl.Prog, h impl.Heap, steps int) {
		if h.Code != 0 || !impl.DeepOk(p) {
			return
		}
		c := h.Calls[h.Now]
		at, ok := impl.DeepAt(p, c.Method)
		if !ok || c.Pc >= len(at) || at[c.Pc] != len(c.Stack) {
			t.Fatalf("%q after %d: %v, not as in %v", impl.ProgText(p), steps, c, at)
		}
		seen++
	})
	if seen < 5000 {
		t.Errorf("only %d", seen)
	}
}

// What an operation takes is taken, and Pc is one more, where it is CodeFull, or goes back to what is Dead; where it is stuck else nothing is.
func TestWhatIsTakenByTheLastOperation(t *testing.T) {
	full, backs, others := 0, 0, 0
	eachStep(func(p impl.Prog, before, after impl.Heap) {
		if after.Code < 2 {
			return
		}
		was, is, op := before.Calls[before.Now], after.Calls[before.Now], opOf(p, before)
		pc, rest := was.Pc, len(was.Stack)
		switch {
		case after.Code == 3:
			full++
			pc, rest = pc+1, rest-p.Methods[op.A].Args
		case op.Kind == impl.OpBack && rest >= 2 && was.Stack[rest-2].Kind == 2:
			backs++
			pc, rest = pc+1, rest-2
		default:
			others++
		}
		if after.Now != before.Now || is.Pc != pc || !slices.Equal(is.Stack, was.Stack[:rest]) {
			t.Fatalf("%q: %v, then %v", impl.ProgText(p), was, is)
		}
	})
	if full < 20 || backs < 2 || others < 40 {
		t.Errorf("%d, %d, %d", full, backs, others)
	}
}

// P11. If DeepOk it is stuck only where a value is not of its kind, or one goes back to what has returned.
func TestWhereItIsStuck(t *testing.T) {
	kinds, backs, others := 0, 0, 0
	eachStep(func(p impl.Prog, h, after impl.Heap) {
		if after.Code != 2 {
			return
		}
		op, stack := opOf(p, h), h.Calls[h.Now].Stack
		if !impl.DeepOk(p) {
			others++
			return
		}
		takes := rowTakes(p, op)
		if op.Kind == 0 || len(stack) < takes {
			t.Fatalf("%q: too few values in %v", impl.ProgText(p), h)
		}
		taken := stack[len(stack)-takes:]
		switch want := wants[kindRows[op.Kind-1].word]; {
		case want == "nn" && (taken[0].Kind != 1 || taken[1].Kind != 1), want != "" && want[0] == 'c' && taken[0].Kind != 2:
			kinds++
		case op.Kind == impl.OpBack && h.Calls[taken[0].Num].Dead:
			backs++
		default:
			t.Fatalf("%q is stuck: %v", impl.ProgText(p), h)
		}
	})
	if kinds < 20 || backs < 1 || others < 20 {
		t.Errorf("%d, %d, %d", kinds, backs, others)
	}
	for _, ops := range [][]string{{"num 1"}, {"drop"}, {"num 1", "add"}, nums(7, "ret"), {"num 1", "zero 0", "num 1", "zero 2"}} {
		h := ranHeap(t, deepMethod(t, ops...), 400)
		if h.Code != 2 || impl.DeepOk(deepMethod(t, ops...)) {
			t.Errorf("%v: %v", ops, h)
		}
	}
}

// P12. A program begins with one call, seen as it is.
func TestProgramBeginsWithOneCall(t *testing.T) {
	for _, p := range manyProgs() {
		h, ok := impl.HeapNew(p)
		first := impl.Call{Temps: make([]impl.Val, p.Methods[0].Temps), Sender: -1}
		want := impl.Heap{Calls: []impl.Call{first}, Born: 1}
		if !ok || !sameHeap(h, want) || !impl.HeapOk(p, h) || impl.HeapDeep(h) != 1 {
			t.Fatalf("%q: %v, %v", impl.ProgText(p), h, ok)
		}
		if view := impl.HeapView(h); !sameCalls(view, want.Calls) {
			t.Fatalf("%q: seen %v", impl.ProgText(p), view)
		}
	}
}

// P13. Operations are done one behind the other, cut anywhere.
func TestCutAnywhere(t *testing.T) {
	for i, x := range heapTraces() {
		last := len(x.heaps) - 1
		for _, cut := range []int{0, 1, last / 2, (i * 7) % (last + 1), last} {
			whole := runHeap(t, x.p, x.heaps[0], last)
			parts := runHeap(t, x.p, runHeap(t, x.p, x.heaps[0], cut), last-cut)
			if !sameHeap(whole, parts) || !sameHeap(whole, x.heaps[last]) {
				t.Fatalf("%q, %d cut at %d: %v, not %v", impl.ProgText(x.p), last, cut, parts, whole)
			}
		}
	}
}

// So many operations are done as are asked for: 0, 399 and 400 may be; one fewer or more may not.
func TestBoundsOfSteps(t *testing.T) {
	p := readProg(t, "method 0 1", "num 0", "set 0", "temp 0", "num 1", "add", "set 0", "jump 2")
	h := newHeap(t, p)
	for _, steps := range []int{math.MinInt, -400, -1, 401, 402, math.MaxInt} {
		if out, ok := impl.HeapRun(p, h, steps); ok || !sameHeap(out, impl.Heap{}) {
			t.Errorf("%d: %v, %v", steps, out, ok)
		}
	}
	for _, steps := range []int{0, 1, 2, 7, 12, 399, 400} {
		want := copyHeap(h)
		for range steps {
			want = modelStep(p, want)
		}
		if out := runHeap(t, p, h, steps); !sameHeap(out, want) {
			t.Errorf("%d: %v, not %v", steps, out, want)
		}
	}
	// Two operations ahead of the loop, then 79 times five, then one to three of the next time.
	for steps, want := range map[int][]impl.Val{398: {number(79)}, 399: {number(79), number(1)}, 400: {number(80)}} {
		if c := runHeap(t, p, h, steps).Calls[0]; c.Temps[0] != number(79) || !slices.Equal(c.Stack, want) {
			t.Errorf("after %d: %v", steps, c)
		}
	}
}

// P14. HeapStep is HeapRun of one, and ok; nothing changes, if it does not run.
func TestHeapStepIsHeapRunOfOne(t *testing.T) {
	still := 0
	check := func(p impl.Prog, h impl.Heap, _ int) {
		one, ok := impl.HeapStep(p, h)
		if !ok || !impl.HeapOk(p, one) || !sameHeap(one, runHeap(t, p, h, 1)) {
			t.Fatalf("%q: of %v\n%v, %v", impl.ProgText(p), h, one, ok)
		}
		if h.Code != 0 {
			still++
			if !sameHeap(one, h) {
				t.Fatalf("%q: %v changed to %v", impl.ProgText(p), h, one)
			}
		}
		if h.Code == 0 && sameHeap(one, h) && opOf(p, h).Kind != impl.OpJump {
			t.Fatalf("%q: nothing changes of %v", impl.ProgText(p), h)
		}
	}
	eachHeap(check)
	for _, x := range oddHeaps() {
		check(x.p, x.heaps[0], 0)
	}
	if still < 500 {
		t.Errorf("only %d do not run", still)
	}
}

// P15. All that are not Dead wait for one another.
func TestAllThatAreNotDeadWait(t *testing.T) {
	dead := 0
	eachHeap(func(p impl.Prog, h impl.Heap, _ int) {
		wait := waiting(h)
		for place, c := range h.Calls {
			if c.Dead == slices.Contains(wait, place) {
				t.Fatalf("%q: call %d of %v", impl.ProgText(p), place, h)
			}
			if c.Dead {
				dead++
			}
			if c.Dead && (len(c.Stack) != 0 || c.Sender != -1) {
				t.Fatalf("%q: call %d is Dead in %v", impl.ProgText(p), place, h)
			}
		}
	})
	if dead < 500 {
		t.Errorf("only %d are Dead", dead)
	}
}

// P16. HeapRun is ok; what was said, and born, stays.
func TestWhatWasSaidAndBornStays(t *testing.T) {
	said := 0
	for _, x := range heapTraces() {
		last := x.heaps[len(x.heaps)-1]
		for _, h := range x.heaps {
			if !impl.HeapOk(x.p, h) {
				t.Fatalf("%q: %v is not ok", impl.ProgText(x.p), h)
			}
			if len(h.Said) > len(last.Said) || !slices.Equal(h.Said, last.Said[:len(h.Said)]) || h.Born > last.Born || h.Born < 1 {
				t.Fatalf("%q: %v, then %v", impl.ProgText(x.p), h, last)
			}
		}
		said += len(last.Said)
		if end := runHeap(t, x.p, last, 400); !impl.HeapOk(x.p, end) || end.Born < last.Born || !slices.Equal(end.Said[:len(last.Said)], last.Said) {
			t.Fatalf("%q: %v, then %v", impl.ProgText(x.p), last, end)
		}
	}
	if said < 500 {
		t.Errorf("only %d are said", said)
	}
}

// P17. What is Dead stays so, and all keep their method; at the end nothing is seen.
func TestWhatIsDeadStaysSo(t *testing.T) {
	ended := 0
	eachStep(func(p impl.Prog, before, after impl.Heap) {
		for place, c := range before.Calls {
			next := after.Calls[place]
			if next.Method != c.Method || c.Dead && (!next.Dead || next.Pc != c.Pc) {
				t.Fatalf("%q: call %d of %v, then of %v", impl.ProgText(p), place, before, after)
			}
		}
		if after.Code == 1 {
			ended++
			if view := impl.HeapView(after); len(view) != 0 || impl.HeapDeep(after) != 0 {
				t.Fatalf("%q: seen at the end: %v", impl.ProgText(p), view)
			}
		}
	})
	if ended < 200 {
		t.Errorf("only %d end", ended)
	}
}

// P42. As many calls are born as there are more; CodeFull only at HeapBorn.
func TestAsManyAreBornAsThereAreMore(t *testing.T) {
	full := 0
	eachStep(func(p impl.Prog, before, after impl.Heap) {
		if after.Born-before.Born != len(after.Calls)-len(before.Calls) || after.Born > 30 {
			t.Fatalf("%q: %v, then %v", impl.ProgText(p), before, after)
		}
		if after.Code == 3 {
			full++
			if before.Born != 30 || opOf(p, before).Kind != impl.OpCall {
				t.Fatalf("%q is full: %v", impl.ProgText(p), after)
			}
		}
	})
	if full < 20 {
		t.Errorf("only %d are full", full)
	}
}

// HeapBorn calls are born, and none more, however few of them wait.
func TestHeapBornIsMetExactly(t *testing.T) {
	deep := readProg(t, "method 0 0", "call 0", "ret")
	flat := readProg(t, "method 0 0", "call 1", "drop", "jump 0", "method 0 0", "num 1", "ret")
	for steps, want := range map[int]int{28: 0, 29: 0, 30: 3, 31: 3, 400: 3} {
		h := ranHeap(t, deep, steps)
		if h.Code != want || h.Born != min(steps+1, 30) || len(h.Calls) != h.Born || impl.HeapDeep(h) != h.Born {
			t.Errorf("after %d: %v", steps, h)
		}
	}
	for steps, want := range map[int]int{144: 0, 145: 0, 146: 3, 400: 3} {
		h := ranHeap(t, flat, steps)
		if h.Code != want || h.Born != 30 || len(h.Calls) != 30 || impl.HeapDeep(h) != 1 {
			t.Errorf("after %d: %v", steps, h)
		}
	}
	// What was trimmed away was born all the same.
	trimmed, ok := impl.HeapTrim(flat, ranHeap(t, flat, 145))
	if !ok || len(trimmed.Calls) != 1 || trimmed.Born != 30 || runHeap(t, flat, trimmed, 1).Code != 3 {
		t.Errorf("%v, %v", trimmed, ok)
	}
}

// P43. No more is said, or born, than operations are done.
func TestNoMoreThanOperationsAreDone(t *testing.T) {
	eachHeap(func(p impl.Prog, h impl.Heap, steps int) {
		if len(h.Said) > steps || h.Born-1 > steps || len(h.Said)+h.Born-1 > steps {
			t.Fatalf("%q after %d: %v", impl.ProgText(p), steps, h)
		}
	})
	p := readProg(t, "method 0 0", "num 3", "say", "jump 0")
	for _, steps := range []int{0, 1, 2, 3, 4, 5, 399, 400} {
		if h := ranHeap(t, p, steps); len(h.Said) != (steps+1)/3 || h.Born != 1 {
			t.Errorf("after %d: %v", steps, h)
		}
	}
}

// P44. What does not run stays as it is; ended just if none runs.
func TestWhatDoesNotRunStaysAsItIs(t *testing.T) {
	for _, x := range slices.Concat(heapTraces(), oddHeaps()) {
		h := x.heaps[len(x.heaps)-1]
		if (h.Code == 1) != (h.Now == -1) {
			t.Fatalf("%q: %v", impl.ProgText(x.p), h)
		}
		for _, steps := range []int{0, 1, 400} {
			if out := runHeap(t, x.p, h, steps); (h.Code != 0 || steps == 0) && !sameHeap(out, h) || (out.Code == 1) != (out.Now == -1) {
				t.Fatalf("%q: of %v after %d: %v", impl.ProgText(x.p), h, steps, out)
			}
		}
	}
	// Such ones stay though nothing hinders the operation that is next.
	p := readProg(t, "method 0 0", "num 1", "ret")
	for _, code := range []int{2, 3} {
		h := newHeap(t, p)
		h.Code = code
		if out := runHeap(t, p, h, 2); !sameHeap(out, h) {
			t.Errorf("%v", out)
		}
	}
}

func hasHere(p impl.Prog) bool {
	return slices.ContainsFunc(p.Methods, func(m impl.Method) bool {
		return slices.ContainsFunc(m.Ops, func(op impl.Op) bool { return op.Kind == impl.OpHere })
	})
}

// P45. Without OpHere no call is said, and only those that wait are seen.
func TestWithoutHere(t *testing.T) {
	seen, born := 0, 0
	eachHeap(func(p impl.Prog, h impl.Heap, _ int) {
		if hasHere(p) {
			return
		}
		seen++
		born = max(born, h.Born)
		if slices.ContainsFunc(h.Said, func(v impl.Val) bool { return v.Kind == impl.ValCall }) {
			t.Fatalf("%q: a call is said: %v", impl.ProgText(p), h)
		}
		view := impl.HeapView(h)
		if len(view) != impl.HeapDeep(h) || slices.ContainsFunc(view, func(c impl.Call) bool { return c.Dead }) {
			t.Fatalf("%q: %v", impl.ProgText(p), view)
		}
	})
	if seen < 500 || born < 5 {
		t.Errorf("only %d, with %d calls born", seen, born)
	}
	h := ranHeap(t, readProg(t, "method 0 0", "call 1", "drop", "call 1", "say", "call 1", "drop", "num 4", "ret", "method 0 0", "num 1", "ret"), 13)
	if view := impl.HeapView(h); len(view) != 1 || len(h.Calls) != 4 || !slices.Equal(h.Said, []impl.Val{number(1)}) {
		t.Errorf("%v of %v", view, h)
	}
}

// calledOf says, of each method, whether the program has an operation that calls it; the first one is called.
func calledOf(p impl.Prog) []bool {
	out := make([]bool, len(p.Methods))
	out[0] = true
	for _, m := range p.Methods {
		for _, op := range m.Ops {
			if op.Kind == impl.OpCall {
				out[op.A] = true
			}
		}
	}
	return out
}

// P46. A method that is not called changes nothing.
func TestMethodThatIsNotCalled(t *testing.T) {
	changed, more := 0, 0
	spare := impl.Method{Args: 1, Temps: 3, Ops: []impl.Op{{Kind: impl.OpHere}, {Kind: impl.OpSay}, {Kind: impl.OpNum}, {Kind: impl.OpRet}}}
	for _, x := range heapTraces() {
		last := len(x.heaps) - 1
		var others []impl.Prog
		for method, called := range calledOf(x.p) {
			if !called {
				q := copyProg(x.p)
				q.Methods[method] = spare
				others = append(others, q)
				changed++
			}
		}
		if len(x.p.Methods) < 4 {
			q := copyProg(x.p)
			q.Methods = append(q.Methods, spare)
			others = append(others, q)
			more++
		}
		for _, q := range others {
			for _, steps := range []int{last / 2, last} {
				if h := ranHeap(t, q, steps); !sameHeap(h, x.heaps[steps]) {
					t.Fatalf("%q and %q after %d: %v, not %v", impl.ProgText(x.p), impl.ProgText(q), steps, h, x.heaps[steps])
				}
			}
		}
	}
	if changed < 50 || more < 50 {
		t.Errorf("%d, %d", changed, more)
	}
}

// What is not ok has the one answer that the document names.
func TestHeapFunctionsOfWhatIsNotOk(t *testing.T) {
	p := readProg(t, "method 0 0", "num 1", "ret")
	good := newHeap(t, p)
	bad := copyHeap(good)
	bad.Born = 31
	for i, x := range []struct {
		p impl.Prog
		h impl.Heap
	}{
		{impl.Prog{}, good},
		{impl.Prog{Methods: []impl.Method{{Args: 1, Temps: 1}}}, good},
		{p, impl.Heap{}},
		{p, bad},
	} {
		for _, steps := range []int{-1, 0, 1, 400, 401} {
			if h, ok := impl.HeapRun(x.p, x.h, steps); ok || !sameHeap(h, impl.Heap{}) {
				t.Errorf("%d, run of %d: %v, %v", i, steps, h, ok)
			}
		}
		if h, ok := impl.HeapStep(x.p, x.h); ok || !sameHeap(h, impl.Heap{}) {
			t.Errorf("%d, a step: %v, %v", i, h, ok)
		}
		if h, ok := impl.HeapTrim(x.p, x.h); ok || !sameHeap(h, impl.Heap{}) {
			t.Errorf("%d, trimmed: %v, %v", i, h, ok)
		}
		if impl.HeapOk(x.p, x.h) {
			t.Errorf("%d is ok", i)
		}
	}
	for i, q := range []impl.Prog{
		{},
		{Methods: []impl.Method{}},
		{Methods: make([]impl.Method, 5)},
		{Methods: []impl.Method{{Args: 1, Temps: 1}}},
		{Methods: []impl.Method{{Temps: 5}}},
		{Methods: []impl.Method{{Temps: -1}}},
		{Methods: []impl.Method{{Ops: opsOf(15, impl.Op{Kind: impl.OpHere})}}},
		{Methods: []impl.Method{{}, {Ops: []impl.Op{{Kind: 19}}}}},
	} {
		if h, ok := impl.HeapNew(q); ok || !sameHeap(h, impl.Heap{}) {
			t.Errorf("program %d: %v, %v", i, h, ok)
		}
	}
}
