package tests

import (
	"math"
	"slices"
	"testing"

	"loop.example/gemel/impl"
)

// okHeapProg and okHeap are a program and an ok heap, which the tests of this file break in one way each.
func okHeapProg(t *testing.T) impl.Prog {
	t.Helper()
	return opProg(t, "drop")
}

func okHeap() impl.Heap {
	return opHeap(number(1), none, callVal(bareCall))
}

func checkHeapOk(t *testing.T, name string, want bool, change func(h *impl.Heap)) {
	t.Helper()
	p, h := okHeapProg(t), okHeap()
	change(&h)
	if impl.HeapOk(p, h) != want {
		t.Errorf("%s: ok is %v of %v", name, !want, h)
	}
	if want {
		return
	}
	// What is not ok is refused by all that ask for an ok heap.
	out, ran := impl.HeapRun(p, h, 0)
	one, stepped := impl.HeapStep(p, h)
	cut, trimmed := impl.HeapTrim(p, h)
	if ran || stepped || trimmed || !sameHeap(out, impl.Heap{}) || !sameHeap(one, impl.Heap{}) || !sameHeap(cut, impl.Heap{}) {
		t.Errorf("%s: %v, %v, %v", name, out, one, cut)
	}
	if m, ok := impl.MoveIn(p, h, 2, 30); ok || !sameMach(m, impl.Mach{}) {
		t.Errorf("%s, moved in: %v, %v", name, m, ok)
	}
	noWalkOfHeap(t, name, p, h)
	impl.HeapView(h)
	impl.HeapDeep(h)
}

func TestHeapsThatAreOk(t *testing.T) {
	for name, change := range map[string]func(h *impl.Heap){
		"as it is":               func(h *impl.Heap) {},
		"as many calls as born":  func(h *impl.Heap) { h.Born = 5 },
		"all born":               func(h *impl.Heap) { h.Born = 30 },
		"nothing said":           func(h *impl.Heap) { h.Said = nil },
		"all kinds said":         func(h *impl.Heap) { h.Said = vals(none, number(0), number(999), callVal(0), callVal(3)) },
		"much said":              func(h *impl.Heap) { h.Said = slices.Repeat(vals(number(3)), 1000) },
		"stuck":                  func(h *impl.Heap) { h.Code = 2 },
		"full":                   func(h *impl.Heap) { h.Code = 3 },
		"Pc at the end":          func(h *impl.Heap) { h.Calls[nowCall].Pc = 5 },
		"Pc at the end, waiting": func(h *impl.Heap) { h.Calls[midCall].Pc = 3 },
		"six values":             func(h *impl.Heap) { h.Calls[nowCall].Stack = slices.Repeat(vals(number(999)), 6) },
		"five values, waiting":   func(h *impl.Heap) { h.Calls[midCall].Stack = slices.Repeat(vals(callVal(4)), 5) },
		"one call":               func(h *impl.Heap) { *h = impl.Heap{Calls: []impl.Call{{Method: 3, Sender: -1}}, Born: 1} },
		"ended":                  func(h *impl.Heap) { endAll(h) },
		"ended, without calls":   func(h *impl.Heap) { *h = impl.Heap{Now: -1, Born: 1, Code: 1} },
		"two Dead ones":          func(h *impl.Heap) { h.Now = midCall; leaves(h, nowCall) },
	} {
		checkHeapOk(t, name, true, change)
	}
}

func endAll(h *impl.Heap) {
	for place := range h.Calls {
		leaves(h, place)
	}
	h.Now, h.Code = -1, 1
}

func TestHeapsWhoseNumbersAreNotOk(t *testing.T) {
	for name, change := range map[string]func(h *impl.Heap){
		"nothing":                    func(h *impl.Heap) { *h = impl.Heap{} },
		"no call runs":               func(h *impl.Heap) { h.Now = -1 },
		"Now below":                  func(h *impl.Heap) { h.Now = -2 },
		"Now past the end":           func(h *impl.Heap) { h.Now = 5 },
		"Now far off":                func(h *impl.Heap) { h.Now = math.MaxInt },
		"none born":                  func(h *impl.Heap) { h.Born = 0 },
		"none born, without calls":   func(h *impl.Heap) { *h = impl.Heap{Now: -1, Code: 1} },
		"fewer than none born":       func(h *impl.Heap) { h.Born = -1 },
		"too many born":              func(h *impl.Heap) { h.Born = 31 },
		"far too many born":          func(h *impl.Heap) { h.Born = math.MaxInt },
		"more calls than born":       func(h *impl.Heap) { h.Born = 4 },
		"too many calls":             func(h *impl.Heap) { h.Born = 30; h.Calls = append(h.Calls, slices.Repeat(h.Calls[4:], 26)...) },
		"a code below":               func(h *impl.Heap) { h.Code = -1 },
		"a code above":               func(h *impl.Heap) { h.Code = 4 },
		"ended, and one runs":        func(h *impl.Heap) { h.Code = 1 },
		"runs, and none does":        func(h *impl.Heap) { endAll(h); h.Code = 0 },
		"stuck, and none runs":       func(h *impl.Heap) { endAll(h); h.Code = 2 },
		"full, and none runs":        func(h *impl.Heap) { endAll(h); h.Code = 3 },
		"nothing with a number said": func(h *impl.Heap) { h.Said = vals(none, impl.Val{Num: 1}) },
		"a number too great said":    func(h *impl.Heap) { h.Said = vals(number(1000)) },
		"a number below said":        func(h *impl.Heap) { h.Said = vals(number(-1)) },
		"no method said":             func(h *impl.Heap) { h.Said = vals(number(1), callVal(4)) },
		"a method below said":        func(h *impl.Heap) { h.Said = vals(callVal(-1)) },
		"another kind said":          func(h *impl.Heap) { h.Said = vals(impl.Val{Kind: 3}) },
		"a kind below said":          func(h *impl.Heap) { h.Said = vals(impl.Val{Kind: -1}) },
	} {
		checkHeapOk(t, name, false, change)
	}
}

// Each call has to be in form, whether it runs, waits or has returned.
func TestHeapsWhoseCallsAreNotInForm(t *testing.T) {
	for place, c := range okHeap().Calls {
		for name, change := range map[string]func(c *impl.Call){
			"a method below":        func(c *impl.Call) { c.Method = -1 },
			"no method":             func(c *impl.Call) { c.Method = 4 },
			"a method far off":      func(c *impl.Call) { c.Method = math.MaxInt },
			"Pc below":              func(c *impl.Call) { c.Pc = -1 },
			"Pc behind the end":     func(c *impl.Call) { c.Pc = len(okHeapProg(t).Methods[c.Method].Ops) + 1 },
			"Pc far off":            func(c *impl.Call) { c.Pc = math.MaxInt },
			"a temp more":           func(c *impl.Call) { c.Temps = append(c.Temps, none) },
			"too many values":       func(c *impl.Call) { c.Stack = slices.Repeat(vals(none), 7) },
			"a caller below":        func(c *impl.Call) { c.Sender = -2 },
			"a caller that is none": func(c *impl.Call) { c.Sender = 5 },
			"a caller far off":      func(c *impl.Call) { c.Sender = math.MaxInt },
			"it called itself":      func(c *impl.Call) { c.Sender = place },
			"the other way":         func(c *impl.Call) { c.Dead = !c.Dead },
		} {
			checkHeapOk(t, name, false, func(h *impl.Heap) { change(&h.Calls[place]) })
		}
		if len(c.Temps) > 0 {
			checkHeapOk(t, "a temp fewer", false, func(h *impl.Heap) { h.Calls[place].Temps = c.Temps[1:] })
		}
		for _, v := range badVals() {
			if len(c.Temps) > 0 {
				checkHeapOk(t, "a temp", false, func(h *impl.Heap) { h.Calls[place].Temps[len(c.Temps)-1] = v })
			}
			checkHeapOk(t, "a value", false, func(h *impl.Heap) { h.Calls[place].Stack = vals(none, v) })
		}
	}
}

// badVals are values that are none where there are five calls.
func badVals() []impl.Val {
	return vals(impl.Val{Num: 1}, impl.Val{Num: -1}, number(-1), number(1000), number(math.MinInt), callVal(-1), callVal(5), callVal(math.MaxInt),
		impl.Val{Kind: 3}, impl.Val{Kind: -1}, impl.Val{Kind: math.MinInt, Num: 1})
}

func TestHeapsWhoseCallsDoNotWait(t *testing.T) {
	for name, change := range map[string]func(h *impl.Heap){
		"a ring of two":                 func(h *impl.Heap) { h.Calls[midCall].Sender = nowCall; leaves(h, firstCall) },
		"a ring of all":                 func(h *impl.Heap) { h.Calls[firstCall].Sender = nowCall },
		"a ring further on":             func(h *impl.Heap) { h.Calls[firstCall].Sender = midCall },
		"one that runs is Dead":         func(h *impl.Heap) { leaves(h, nowCall) },
		"all are Dead, and one runs":    func(h *impl.Heap) { endAll(h); h.Now, h.Code = 0, 0 },
		"one that waits is Dead":        func(h *impl.Heap) { leaves(h, midCall) },
		"the first one is Dead":         func(h *impl.Heap) { leaves(h, firstCall) },
		"a caller that has returned":    func(h *impl.Heap) { h.Calls[firstCall].Sender = deadCall },
		"one is not Dead, nor waits":    func(h *impl.Heap) { h.Calls[deadCall].Dead = false },
		"one is left out":               func(h *impl.Heap) { h.Calls[nowCall].Sender = firstCall },
		"the call that runs alone":      func(h *impl.Heap) { h.Calls[nowCall].Sender = -1 },
		"another one runs":              func(h *impl.Heap) { h.Now = midCall },
		"one has its caller, but Dead":  func(h *impl.Heap) { h.Calls[deadCall].Sender = nowCall },
		"one has its values, but Dead":  func(h *impl.Heap) { h.Calls[deadCall].Stack = vals(none) },
		"six values, waiting":           func(h *impl.Heap) { h.Calls[midCall].Stack = slices.Repeat(vals(none), 6) },
		"six values, waiting last":      func(h *impl.Heap) { h.Calls[firstCall].Stack = slices.Repeat(vals(none), 6) },
		"ended, and one is not Dead":    func(h *impl.Heap) { endAll(h); h.Calls[bareCall].Dead = false },
		"ended, and a ring is not Dead": func(h *impl.Heap) { endAll(h); h.Calls[bareCall] = impl.Call{Method: 3, Sender: bareCall} },
	} {
		checkHeapOk(t, name, false, change)
	}
}

// otherProgs are okHeapProg, changed in one way each so that what was ok is not any more.
func otherProgs(t *testing.T) map[string]impl.Prog {
	t.Helper()
	out := map[string]impl.Prog{}
	for name, change := range map[string]func(p *impl.Prog){
		"without methods":      func(p *impl.Prog) { p.Methods = nil },
		"a method fewer":       func(p *impl.Prog) { p.Methods = p.Methods[:3] },
		"a method more":        func(p *impl.Prog) { p.Methods = append(p.Methods, impl.Method{}) },
		"operations fewer":     func(p *impl.Prog) { p.Methods[3].Ops = p.Methods[3].Ops[:2] },
		"a temp more":          func(p *impl.Prog) { p.Methods[3].Temps = 1 },
		"not ok":               func(p *impl.Prog) { p.Methods[3].Ops[0].Kind = 19 },
		"arguments at first":   func(p *impl.Prog) { p.Methods[0].Args = 1 },
		"an operation too big": func(p *impl.Prog) { p.Methods[1].Ops[1].A = 100 },
	} {
		p := okHeapProg(t)
		change(&p)
		out[name] = p
	}
	return out
}

// A heap of one program is none of another, nor of one that is not ok.
func TestHeapOfAnotherProgram(t *testing.T) {
	for name, p := range otherProgs(t) {
		if impl.HeapOk(p, okHeap()) {
			t.Errorf("%s: ok", name)
		}
	}
}

// Heaps that programs run to, and others that are in form, are ok; with Said, Born, or a value of theirs broken they are not.
func TestManyHeapsAreOk(t *testing.T) {
	for _, x := range slices.Concat(heapTraces(), oddHeaps()) {
		h := copyHeap(x.heaps[len(x.heaps)-1])
		if !impl.HeapOk(x.p, h) {
			t.Fatalf("%q: %v is not ok", impl.ProgText(x.p), h)
		}
		h.Born = len(h.Calls)
		if impl.HeapOk(x.p, h) != (h.Born > 0) {
			t.Fatalf("%q: %v", impl.ProgText(x.p), h)
		}
		h.Born = len(h.Calls) - 1
		if impl.HeapOk(x.p, h) {
			t.Fatalf("%q: %v is ok", impl.ProgText(x.p), h)
		}
	}
}
