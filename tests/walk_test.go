package tests

import (
	"math"
	"slices"
	"testing"

	"loop.example/gemel/impl"
)

// wantNext is the operation that is next in an ok heap; false, if there is none, or it does not run.
func wantNext(p impl.Prog, h impl.Heap) (impl.Op, bool) {
	if h.Code != 0 {
		return impl.Op{}, false
	}
	op := opOf(p, h)
	return op, op.Kind != 0
}

// nextMet tells how it stands, and whether there is an operation at Pc.
func nextMet(p impl.Prog, h impl.Heap) map[string]bool {
	met := standing(h.Code, h.Born)
	_, next := wantNext(p, h)
	met["an operation is next"] = next
	met["runs, and none is next"] = h.Code == 0 && !next
	met["does not run, though there is one"] = h.Code > 1 && opOf(p, h).Kind != 0
	met["does not run, nor is there one"] = h.Code > 1 && opOf(p, h).Kind == 0
	return met
}

// P98. HeapNext is the operation at Pc, and MachNext the same when moved in.
func TestHeapNext(t *testing.T) {
	t.Parallel()
	met, i := tally{}, 0
	eachHeapToMove(func(p impl.Prog, h impl.Heap) {
		i++
		want, isNext := wantNext(p, h)
		if op, ok := impl.HeapNext(p, h); op != want || ok != isNext {
			t.Fatalf("%q: of %v next %v, %v, not %v", impl.ProgText(p), h, op, ok, want)
		}
		if op, ok := impl.MachNext(p, moveIn(t, p, h, shapeAt(i))); op != want || ok != isNext {
			t.Fatalf("%q: of %v moved in next %v, %v, not %v", impl.ProgText(p), h, op, ok, want)
		}
		met.add(nextMet(p, h))
	})
	met.ask(t, 50)
}

// P99. MachNext is HeapNext when moved out; if there is none a step is stuck.
func TestMachNext(t *testing.T) {
	t.Parallel()
	met := tally{}
	eachMachToMove(func(p impl.Prog, m impl.Mach) {
		h := modelMoveOut(m)
		want, isNext := wantNext(p, h)
		op, ok := impl.MachNext(p, m)
		if op != want || ok != isNext {
			t.Fatalf("%q: of %v next %v, %v, not %v", impl.ProgText(p), m, op, ok, want)
		}
		if op, ok := impl.HeapNext(p, moveOut(t, p, m)); op != want || ok != isNext {
			t.Fatalf("%q: of %v moved out next %v, %v, not %v", impl.ProgText(p), m, op, ok, want)
		}
		if !ok && m.Code == 0 {
			stuck := copyMach(m)
			stuck.Code = 2
			if out := runMach(t, p, m, 1); !sameMach(out, stuck) {
				t.Fatalf("%q: none is next in %v, but %v is", impl.ProgText(p), m, out)
			}
		}
		met.add(nextMet(p, h), layout(m))
	})
	met.ask(t, 50)
}

// P98, P99. What is next is the same, flushed and moved.
func TestNextFlushedAndMoved(t *testing.T) {
	t.Parallel()
	i := 0
	eachWalk(t, func(x walkCase) {
		i++
		want, isNext := impl.HeapNext(x.p, x.h)
		methods := impl.HeapMethods(x.p, x.h)
		machs := []impl.Mach{x.m, moveTo(t, x.p, x.m, shapeAt(i))}
		for page := range x.m.Pages {
			machs = append(machs, flushMach(t, x.p, x.m, page))
		}
		for _, m := range machs {
			if op, ok := impl.MachNext(x.p, m); op != want || ok != isNext {
				t.Fatalf("%q: of %v next %v, %v, not %v", impl.ProgText(x.p), m, op, ok, want)
			}
			if got := impl.MachMethods(x.p, m); !slices.Equal(got, methods) {
				t.Fatalf("%q: of %v %v, not %v", impl.ProgText(x.p), m, got, methods)
			}
		}
	})
}

// P100. HeapMethods are as many as wait, and MachMethods the same when moved in.
func TestHeapMethods(t *testing.T) {
	t.Parallel()
	met, i := tally{}, 0
	eachHeapToMove(func(p impl.Prog, h impl.Heap) {
		i++
		want, got := methodsOfHeap(h), impl.HeapMethods(p, h)
		if !slices.Equal(got, want) || len(got) != impl.HeapDeep(h) {
			t.Fatalf("%q: of %v %v, not %v", impl.ProgText(p), h, got, want)
		}
		if got := impl.MachMethods(p, moveIn(t, p, h, shapeAt(i))); !slices.Equal(got, want) {
			t.Fatalf("%q: of %v moved in %v, not %v", impl.ProgText(p), h, got, want)
		}
		met.add(standing(h.Code, h.Born), methodsMet(want))
	})
	met.ask(t, 50)
}

// P101. MachMethods are as many as wait, and HeapMethods the same when moved out.
func TestMachMethods(t *testing.T) {
	t.Parallel()
	met := tally{}
	eachMachToMove(func(p impl.Prog, m impl.Mach) {
		want, got := modelMethods(m), impl.MachMethods(p, m)
		if !slices.Equal(got, want) || len(got) != impl.MachDeep(m) {
			t.Fatalf("%q: of %v %v, not %v", impl.ProgText(p), m, got, want)
		}
		if got := impl.HeapMethods(p, moveOut(t, p, m)); !slices.Equal(got, want) {
			t.Fatalf("%q: of %v moved out %v, not %v", impl.ProgText(p), m, got, want)
		}
		met.add(standing(m.Code, m.Born), methodsMet(want), layout(m))
	})
	met.ask(t, 50)
}

// methodsMet tells whether the methods are such that an order, or one left out, is to be seen.
func methodsMet(methods []int) map[string]bool {
	turned := slices.Clone(methods)
	slices.Reverse(turned)
	return map[string]bool{
		"none":                  len(methods) == 0,
		"one":                   len(methods) == 1,
		"many":                  len(methods) > 5,
		"other methods":         len(slices.Compact(turned)) > 1,
		"not the same in turn":  !slices.Equal(turned, methods),
		"one waits for its own": len(slices.Compact(slices.Clone(methods))) < len(methods),
	}
}

// P98, P100. What is next, and which methods wait, operation by operation, on things and on pages.
func TestNextAndMethodsOfCallsWithinCalls(t *testing.T) {
	t.Parallel()
	p := readProg(t, walkProgs()[1].lines...)
	for steps, x := range []struct {
		next    impl.Op
		methods []int
	}{
		{impl.Op{Kind: impl.OpCall, A: 1}, []int{0}},
		{impl.Op{Kind: impl.OpCall, A: 2}, []int{1, 0}},
		{impl.Op{Kind: impl.OpCall, A: 3}, []int{2, 1, 0}},
		{impl.Op{Kind: impl.OpNum, A: 7}, []int{3, 2, 1, 0}},
		{impl.Op{Kind: impl.OpRet}, []int{3, 2, 1, 0}},
		{impl.Op{Kind: impl.OpRet}, []int{2, 1, 0}},
		{impl.Op{Kind: impl.OpDrop}, []int{1, 0}},
		{impl.Op{Kind: impl.OpCall, A: 2}, []int{1, 0}},
		{impl.Op{Kind: impl.OpCall, A: 3}, []int{2, 1, 0}},
		{impl.Op{Kind: impl.OpNum, A: 7}, []int{3, 2, 1, 0}},
		{impl.Op{Kind: impl.OpRet}, []int{3, 2, 1, 0}},
		{impl.Op{Kind: impl.OpRet}, []int{2, 1, 0}},
		{impl.Op{Kind: impl.OpRet}, []int{1, 0}},
		{impl.Op{Kind: impl.OpSay}, []int{0}},
		{impl.Op{Kind: impl.OpNum, A: 5}, []int{0}},
		{impl.Op{Kind: impl.OpRet}, []int{0}},
		{impl.Op{}, nil},
	} {
		h := ranHeap(t, p, steps)
		if op, ok := impl.HeapNext(p, h); op != x.next || ok != (steps < 16) || !slices.Equal(impl.HeapMethods(p, h), x.methods) {
			t.Errorf("after %d: %v, %v, %v", steps, op, ok, impl.HeapMethods(p, h))
		}
		for _, shape := range edgeShapes() {
			m := ranMach(t, p, shape.rooms, shape.cells, steps)
			if op, ok := impl.MachNext(p, m); op != x.next || ok != (steps < 16) || !slices.Equal(impl.MachMethods(p, m), x.methods) {
				t.Errorf("after %d on %v: %v, %v, %v", steps, shape, op, ok, impl.MachMethods(p, m))
			}
		}
	}
}

// P98, P99. At the end of a method none is next, nor where it does not run; the methods of those that wait are told all the same.
func TestNextAtTheEdges(t *testing.T) {
	t.Parallel()
	p := okHeapProg(t)
	for _, x := range []struct {
		name    string
		change  func(h *impl.Heap)
		next    impl.Op
		isNext  bool
		methods []int
	}{
		{"as it is", func(h *impl.Heap) {}, impl.Op{Kind: impl.OpDrop}, true, []int{1, 3, 0}},
		{"the last one", func(h *impl.Heap) { h.Calls[nowCall].Pc = 4 }, impl.Op{Kind: impl.OpRet}, true, []int{1, 3, 0}},
		{"none at Pc", func(h *impl.Heap) { h.Calls[nowCall].Pc = 5 }, impl.Op{}, false, []int{1, 3, 0}},
		{"none at Pc of those that wait", func(h *impl.Heap) { h.Calls[midCall].Pc, h.Calls[firstCall].Pc = 3, 4 }, impl.Op{Kind: impl.OpDrop}, true, []int{1, 3, 0}},
		{"stuck", func(h *impl.Heap) { h.Code = 2 }, impl.Op{}, false, []int{1, 3, 0}},
		{"full", func(h *impl.Heap) { h.Code = 3 }, impl.Op{}, false, []int{1, 3, 0}},
		{"ended", endAll, impl.Op{}, false, nil},
		{"ended, without calls", func(h *impl.Heap) { *h = impl.Heap{Now: -1, Born: 1, Code: 1} }, impl.Op{}, false, nil},
		{"one has returned", func(h *impl.Heap) { h.Now = midCall; leaves(h, nowCall) }, impl.Op{Kind: impl.OpRet}, true, []int{3, 0}},
		{"too few values for it", func(h *impl.Heap) { h.Calls[nowCall].Stack = nil }, impl.Op{Kind: impl.OpDrop}, true, []int{1, 3, 0}},
	} {
		h := okHeap()
		x.change(&h)
		if !impl.HeapOk(p, h) {
			t.Fatalf("%s: not ok", x.name)
		}
		if op, ok := impl.HeapNext(p, h); op != x.next || ok != x.isNext || !slices.Equal(impl.HeapMethods(p, h), x.methods) {
			t.Errorf("%s: %v, %v, %v", x.name, op, ok, impl.HeapMethods(p, h))
		}
		for _, shape := range edgeShapes() {
			m := moveIn(t, p, h, shape)
			if op, ok := impl.MachNext(p, m); op != x.next || ok != x.isNext || !slices.Equal(impl.MachMethods(p, m), x.methods) {
				t.Errorf("%s, on %v: %v, %v, %v", x.name, shape, op, ok, impl.MachMethods(p, m))
			}
		}
	}
	m := okMach()
	if op, ok := impl.MachNext(p, m); op.Kind != impl.OpNum || !ok || !slices.Equal(impl.MachMethods(p, m), []int{1, 1, 2, 3, 0}) {
		t.Errorf("%v, %v, %v", op, ok, impl.MachMethods(p, m))
	}
}

// Thirty that wait have as many methods.
func TestMethodsOfAsManyAsMayBe(t *testing.T) {
	t.Parallel()
	p := readProg(t, "method 0 1", "call 1", "ret", "method 0 0", "call 0", "ret")
	want := slices.Repeat([]int{1, 0}, 15)
	for _, steps := range []int{29, 30} {
		if got := impl.HeapMethods(p, ranHeap(t, p, steps)); !slices.Equal(got, want) {
			t.Errorf("after %d: %v", steps, got)
		}
		for _, shape := range edgeShapes() {
			if got := impl.MachMethods(p, ranMach(t, p, shape.rooms, shape.cells, steps)); !slices.Equal(got, want) {
				t.Errorf("after %d on %v: %v", steps, shape, got)
			}
		}
	}
}

// P102, P104, P105, P107. Numbers of operations that may be, and that may not.
func TestBoundsOfGoingOn(t *testing.T) {
	t.Parallel()
	p := countingProg(t)
	h, m := newHeap(t, p), newMach(t, p, 2, 20)
	for _, most := range []int{math.MinInt, -401, -400, -2, -1, 401, 402, 800, math.MaxInt} {
		refused(t, "most is not so", p, h, m, most)
	}
	if out, ok := impl.HeapOver(p, h, 0); ok || !sameHeap(out, impl.Heap{}) {
		t.Errorf("a heap over by none: %v, %v", out, ok)
	}
	if out, ok := impl.MachOver(p, m, 0); ok || !sameMach(out, impl.Mach{}) {
		t.Errorf("a machine over by none: %v, %v", out, ok)
	}
	if out := heapOut(t, p, h, 0); !sameHeap(out, h) {
		t.Errorf("a heap out by none: %v", out)
	}
	if out := machOut(t, p, m, 0); !sameMach(out, m) {
		t.Errorf("a machine out by none: %v", out)
	}
	for _, most := range []int{1, 2, 399, 400} {
		if out := heapOver(t, p, h, most); !sameHeap(out, runHeap(t, p, h, 1)) {
			t.Errorf("a heap over by %d: %v", most, out)
		}
		if out := machOver(t, p, m, most); !sameMach(out, runMach(t, p, m, 1)) {
			t.Errorf("a machine over by %d: %v", most, out)
		}
		if out := heapOut(t, p, h, most); !sameHeap(out, runHeap(t, p, h, most)) {
			t.Errorf("a heap out by %d: %v", most, out)
		}
		if out := machOut(t, p, m, most); !sameMach(out, runMach(t, p, m, most)) {
			t.Errorf("a machine out by %d: %v", most, out)
		}
	}
}

// A number of operations that may not be is refused as well where one would go on by fewer, or not at all.
func TestBoundsWhereFewerWouldDo(t *testing.T) {
	t.Parallel()
	eachWalkProg(t, func(x walkProg, p impl.Prog, heaps []impl.Heap) {
		for steps, h := range heaps {
			m := ranMach(t, p, 1+steps%4, 14+steps, steps)
			for _, most := range []int{math.MinInt, -1, 401, math.MaxInt} {
				refused(t, x.name, p, h, m, most)
			}
			over, ok := impl.HeapOver(p, h, 0)
			on, okToo := impl.MachOver(p, m, 0)
			if ok || okToo || !sameHeap(over, impl.Heap{}) || !sameMach(on, impl.Mach{}) {
				t.Errorf("%s: after %d over by none: %v, %v", x.name, steps, over, on)
			}
		}
	})
}

// P102, P105. A call that does not end is gone on with as far as may be, and no further.
func TestGoingOnInWhatDoesNotEnd(t *testing.T) {
	t.Parallel()
	p := readProg(t, "method 0 0", "call 1", "ret", "method 0 1", "num 0", "set 0", "temp 0", "num 1", "add", "set 0", "jump 2")
	h, m := newHeap(t, p), newMach(t, p, 2, 14)
	for _, most := range mosts() {
		if out := heapOver(t, p, h, most); !sameHeap(out, runHeap(t, p, h, most)) {
			t.Errorf("a heap over by %d: %v", most, out)
		}
		if out := machOver(t, p, m, most); !sameMach(out, runMach(t, p, m, most)) {
			t.Errorf("a machine over by %d: %v", most, out)
		}
		for _, steps := range []int{0, 1, 2} {
			if from := runHeap(t, p, h, steps); !sameHeap(heapOut(t, p, from, most), runHeap(t, p, from, most)) {
				t.Errorf("a heap out by %d from %d", most, steps)
			}
			if from := runMach(t, p, m, steps); !sameMach(machOut(t, p, from, most), runMach(t, p, from, most)) {
				t.Errorf("a machine out by %d from %d", most, steps)
			}
		}
	}
}

// What does not run does not go on, by whatever number, and stays as it is in all.
func TestGoingOnWithWhatDoesNotRun(t *testing.T) {
	t.Parallel()
	met, i := tally{}, 0
	eachWalk(t, func(x walkCase) {
		if i++; x.h.Code == 0 {
			x.h, x.m = copyHeap(x.h), copyMach(x.m)
			x.h.Code = 2 + i%2
			x.m.Code = x.h.Code
		}
		for _, most := range []int{1, 2, 400} {
			if !sameHeap(heapOver(t, x.p, x.h, most), x.h) || !sameMach(machOver(t, x.p, x.m, most), x.m) {
				t.Fatalf("%q: over %v by %d", impl.ProgText(x.p), x.h, most)
			}
		}
		for _, most := range []int{0, 1, 400} {
			if !sameHeap(heapOut(t, x.p, x.h, most), x.h) || !sameMach(machOut(t, x.p, x.m, most), x.m) {
				t.Fatalf("%q: out of %v by %d", impl.ProgText(x.p), x.h, most)
			}
		}
		met.add(map[string]bool{"ended": x.h.Code == 1, "stuck": x.h.Code == 2, "full": x.h.Code == 3})
	})
	met.ask(t, 50)
}

// A program, a heap or a machine that is not ok does not go on, and nothing is told of it (all that are not ok, in the tests of these, are
// asked likewise).
func TestGoingOnWithWhatIsNotOk(t *testing.T) {
	t.Parallel()
	for name, p := range otherProgs(t) {
		noWalkOfHeap(t, name, p, okHeap())
		noWalkOfMach(t, name, p, okMach())
	}
	p := okHeapProg(t)
	noWalkOfHeap(t, "nothing at all", impl.Prog{}, impl.Heap{})
	noWalkOfMach(t, "nothing at all", impl.Prog{}, impl.Mach{})
	noWalkOfHeap(t, "nothing", p, impl.Heap{})
	noWalkOfMach(t, "nothing", p, impl.Mach{})
	for name, change := range map[string]func(h *impl.Heap, m *impl.Mach){
		"none born":           func(h *impl.Heap, m *impl.Mach) { h.Born, m.Born = 0, 0 },
		"more than HeapBorn":  func(h *impl.Heap, m *impl.Mach) { h.Born, m.Born = 31, 31 },
		"ended, and one runs": func(h *impl.Heap, m *impl.Mach) { h.Code, m.Code = 1, 1 },
		"another code":        func(h *impl.Heap, m *impl.Mach) { h.Code, m.Code = 4, 4 },
		"none runs":           func(h *impl.Heap, m *impl.Mach) { h.Now, m.Now = -1, -1 },
		"no method said":      func(h *impl.Heap, m *impl.Mach) { h.Said, m.Said = vals(callVal(9)), vals(callVal(9)) },
		"Pc behind the end":   func(h *impl.Heap, m *impl.Mach) { h.Calls[nowCall].Pc, m.Pages[0].Frames[1].Pc = 6, 6 },
		"who called is a ring": func(h *impl.Heap, m *impl.Mach) {
			h.Calls[firstCall].Sender, m.Pages[2].Base = nowCall, upperTwin
		},
	} {
		h, m := okHeap(), okMach()
		change(&h, &m)
		noWalkOfHeap(t, name, p, h)
		noWalkOfMach(t, name, p, m)
	}
	if !impl.HeapOk(p, okHeap()) || !impl.MachOk(p, okMach()) {
		t.Error("as they are: not ok")
	}
}
