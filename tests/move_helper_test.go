package tests

import (
	"slices"
	"testing"

	"loop.example/gemel/impl"
)

func moveOut(t *testing.T, p impl.Prog, m impl.Mach) impl.Heap {
	t.Helper()
	h, ok := impl.MoveOut(p, m)
	if !ok {
		t.Fatalf("%q: %v is not moved out", impl.ProgText(p), m)
	}
	return h
}

func moveIn(t *testing.T, p impl.Prog, h impl.Heap, shape machShape) impl.Mach {
	t.Helper()
	m, ok := impl.MoveIn(p, h, shape.rooms, shape.cells)
	if !ok {
		t.Fatalf("%q: %v is not moved in to %v", impl.ProgText(p), h, shape)
	}
	return m
}

func moveTo(t *testing.T, p impl.Prog, m impl.Mach, shape machShape) impl.Mach {
	t.Helper()
	out, ok := impl.MoveTo(p, m, shape.rooms, shape.cells)
	if !ok {
		t.Fatalf("%q: %v is not moved to %v", impl.ProgText(p), m, shape)
	}
	return out
}

// modelMoveOut is the document's words of moving out, of an ok machine.
func modelMoveOut(m impl.Mach) impl.Heap {
	h := impl.Heap{Calls: modelMachView(m), Born: m.Born, Said: slices.Clone(m.Said), Code: m.Code}
	if m.Now == -1 {
		h.Now = -1
	}
	return h
}

// modelMoveIn is the document's words of moving in, of an ok heap, and pages that may be.
func modelMoveIn(h impl.Heap, shape machShape) impl.Mach {
	m := impl.Mach{Cells: shape.cells, Now: -1, Born: h.Born, Said: slices.Clone(h.Said), Code: h.Code}
	for page := range shape.rooms {
		m.Pages = append(m.Pages, impl.Page{Base: -1})
		if page > 0 {
			m.Order = append(m.Order, page)
		}
	}
	m.Order = append(m.Order, 0)
	for _, c := range copyCalls(h.Calls) {
		m.Twins = append(m.Twins, impl.Twin{Page: -1, Left: c})
	}
	if h.Now != -1 {
		modelPut(&m, 0, h.Now)
		m.Now = 0
	}
	return m
}

// shapeAt is another shape for each of many numbers, all of them in the end.
func shapeAt(i int) machShape {
	return machShape{1 + i%4, 14 + i*7%47}
}

// edgeShapes are those with the fewest and the most pages and cells.
func edgeShapes() []machShape {
	return []machShape{{1, 14}, {1, 60}, {4, 14}, {4, 60}, {2, 15}, {3, 59}}
}

// eachHeapToMove hands over heaps that programs run to, others, and such of which none runs, though there are calls.
func eachHeapToMove(look func(p impl.Prog, h impl.Heap)) {
	eachHeapAndOdd(look)
	for i, x := range oddHeaps() {
		if i%8 == 0 {
			h := copyHeap(x.heaps[0])
			endAll(&h)
			look(x.p, h)
		}
	}
}

// eachMachToMove hands over machines that programs run to, others, and such of which none runs, though there are twins.
func eachMachToMove(look func(p impl.Prog, m impl.Mach)) {
	eachMachAndOdd(look)
	for i, x := range oddHeaps() {
		if i%8 == 0 {
			h := copyHeap(x.heaps[0])
			endAll(&h)
			look(x.p, modelMoveIn(h, shapeAt(i)))
		}
	}
}

// sameSeen asks that of two heaps the same was said, and is seen, and both stand the same.
func sameSeen(t *testing.T, p impl.Prog, a, b impl.Heap) {
	t.Helper()
	if !slices.Equal(a.Said, b.Said) || a.Code != b.Code || a.Born != b.Born || (a.Now == -1) != (b.Now == -1) {
		t.Fatalf("%q: %v, not as %v", impl.ProgText(p), a, b)
	}
	if seen, want := impl.HeapView(a), impl.HeapView(b); !sameCalls(seen, want) || impl.HeapDeep(a) != impl.HeapDeep(b) {
		t.Fatalf("%q: %v, not as %v", impl.ProgText(p), a, b)
	}
}

// sameMachSeen asks the same of two machines.
func sameMachSeen(t *testing.T, p impl.Prog, a, b impl.Mach) {
	t.Helper()
	sameAsHeap(t, p, a, modelMoveOut(b))
}

// lostWithout says whether fewer calls are come to, if one does not go on by some values.
func lostWithout(h impl.Heap, forget func(c *impl.Call)) bool {
	some := copyHeap(h)
	for i := range some.Calls {
		forget(&some.Calls[i])
	}
	return len(modelView(some)) < len(modelView(h))
}

// waysToCalls tells by what alone one comes to some calls of an ok heap.
func waysToCalls(h impl.Heap) map[string]bool {
	return map[string]bool{
		"only by temps":               lostWithout(h, func(c *impl.Call) { c.Temps = nil }),
		"only by values":              lostWithout(h, func(c *impl.Call) { c.Stack = nil }),
		"only by a Dead call's temps": lostWithout(h, func(c *impl.Call) { c.Temps = slices.Repeat(c.Temps, counted(0, !c.Dead)) }),
		"a Dead call is come to":      slices.ContainsFunc(modelView(h), func(c impl.Call) bool { return c.Dead }),
	}
}

// standing tells how a machine, or a heap, stands, as far as the tests of moving ask for that.
func standing(code, born int) map[string]bool {
	return map[string]bool{"runs": code == 0, "ended": code == 1, "stuck": code == 2, "full": code == 3, "all born": born == 30}
}

// layout tells how the calls of an ok machine that wait are laid out, and whether one does not come to others.
func layout(m impl.Mach) map[string]bool {
	with, frames, off := 0, 0, 0
	for _, page := range m.Pages {
		with = counted(with, len(page.Frames) > 0)
		frames += len(page.Frames)
	}
	for _, x := range m.Twins {
		off = counted(off, x.Page == -1 && !x.Left.Dead)
	}
	return map[string]bool{
		"several frames, all on one page": with == 1 && frames > 1 && off == 0,
		"frames on several pages":         with > 1 && off == 0,
		"twins on no page that wait":      off > 1,
		"pages, and twins that wait":      with > 1 && off > 0,
		"some are not come to":            modelBorn(m) > len(modelMachView(m)),
	}
}

// tally counts how often each of some things is met.
type tally map[string]int

func (n tally) add(met ...map[string]bool) {
	for _, things := range met {
		for name, is := range things {
			n[name] = counted(n[name], is)
		}
	}
}

// ask fails, if one of the things that were looked for is seldom met.
func (n tally) ask(t *testing.T, least int) {
	t.Helper()
	for name, times := range n {
		if times < least {
			t.Errorf("only %d times: %s", times, name)
		}
	}
}

// edge is an ok heap, by its name, that has what is asked for at the edges.
type edge struct {
	name string
	h    impl.Heap
}

// edgeProg has methods with four temps, with one, and with none; each does what looks at calls, and calls.
func edgeProg(t *testing.T) impl.Prog {
	t.Helper()
	return readProg(t,
		"method 0 4", "call 1", "say", "temp 0", "say", "num 6", "ret",
		"method 0 1", "temp 0", "say", "here", "sender", "peek 0", "say", "call 2", "ret",
		"method 0 0", "here", "sender", "sender", "num 9", "poke 3", "here", "ret")
}

// edgeHeaps are heaps of edgeProg.
func edgeHeaps() []edge {
	dead := func(method int, temps ...impl.Val) impl.Call {
		return impl.Call{Method: method, Temps: temps, Sender: -1, Dead: true}
	}
	four := func(list ...impl.Val) []impl.Val { return append(list, none, none, none, none)[:4] }
	first := func(temps []impl.Val, stack ...impl.Val) impl.Call {
		return impl.Call{Temps: temps, Stack: stack, Sender: -1}
	}
	ended := func(born int, calls ...impl.Call) impl.Heap {
		return impl.Heap{Calls: calls, Now: -1, Born: born, Said: vals(callVal(1)), Code: 1}
	}
	row := impl.Heap{Now: 29, Born: 30}
	for i := range 30 {
		row.Calls = append(row.Calls, impl.Call{Method: 2, Pc: 2, Stack: vals(callVal(29 - i)), Sender: i - 1})
	}
	one, all := impl.Heap{Calls: []impl.Call{first(four())}, Born: 1}, impl.Heap{Calls: []impl.Call{first(four())}, Born: 30}
	stuck, full := copyHeap(row), copyHeap(row)
	stuck.Code, full.Code = 2, 3
	lead := impl.Heap{Calls: []impl.Call{dead(1, callVal(3)), dead(1, callVal(0)), first(four(none, callVal(1))), dead(2)}, Now: 2, Born: 4}
	return []edge{
		{"one call", one},
		{"one call, and all born", all},
		{"only by temps", impl.Heap{Calls: []impl.Call{dead(2), first(four(none, callVal(2), callVal(0))), dead(1, none)}, Now: 1, Born: 3}},
		{"only by temps of one that waits", impl.Heap{Calls: []impl.Call{
			first(four(none, none, none, callVal(1))), dead(2), {Method: 1, Temps: vals(none), Sender: 0}}, Now: 2, Born: 9}},
		{"only by values", impl.Heap{Calls: []impl.Call{dead(2), first(four(), number(2), callVal(0), callVal(2)), dead(1, none)}, Now: 1, Born: 3}},
		{"only by values of one that waits", impl.Heap{Calls: []impl.Call{
			first(four(), callVal(1)), dead(2), {Method: 1, Temps: vals(none), Stack: vals(number(1)), Sender: 0}}, Now: 2, Born: 9}},
		{"only by a Dead call's temps", lead},
		{"not at all", impl.Heap{Calls: []impl.Call{dead(1, callVal(3)), first(four()), dead(2), dead(1, callVal(0))}, Now: 1, Born: 4}},
		{"not at all, though they tell who runs", impl.Heap{Calls: []impl.Call{first(four()), dead(1, callVal(0)), dead(1, callVal(1))}, Now: 0, Born: 3}},
		{"itself", impl.Heap{Calls: []impl.Call{first(four(callVal(0), callVal(0)), callVal(0))}, Born: 2}},
		{"six values", impl.Heap{Calls: []impl.Call{first(four(), vals(none, number(0), number(999), callVal(0), callVal(1), callVal(1))...), dead(2)}, Born: 2}},
		{"thirty that wait", row},
		{"thirty that wait, stuck", stuck},
		{"thirty that wait, full", full},
		{"ended, without calls", ended(1)},
		{"ended, with calls", ended(30, dead(0, four(callVal(1))...), dead(1, callVal(0)))},
	}
}
