package tests

import (
	"math"
	"testing"

	"loop.example/gemel/impl"
)

// P65. MoveOut is ok, seen the same, as deep.
func TestMoveOut(t *testing.T) {
	t.Parallel()
	met := tally{}
	eachMachToMove(func(p impl.Prog, m impl.Mach) {
		h := moveOut(t, p, m)
		if !impl.HeapOk(p, h) || !sameHeap(h, modelMoveOut(m)) {
			t.Fatalf("%q: of %v\n%v, not\n%v", impl.ProgText(p), m, h, modelMoveOut(m))
		}
		if !sameCalls(h.Calls, impl.MachView(m)) || !sameCalls(impl.HeapView(h), h.Calls) || impl.HeapDeep(h) != impl.MachDeep(m) {
			t.Fatalf("%q: of %v\n%v", impl.ProgText(p), m, h)
		}
		met.add(layout(m), standing(m.Code, m.Born), waysToCalls(h))
	})
	met.ask(t, 100)
}

// P66. MoveIn is ok, seen the same, with one frame at most.
func TestMoveIn(t *testing.T) {
	t.Parallel()
	met, i := tally{}, 0
	eachHeapToMove(func(p impl.Prog, h impl.Heap) {
		i++
		m := moveIn(t, p, h, shapeAt(i))
		if !impl.MachOk(p, m) || !sameMach(m, modelMoveIn(h, shapeAt(i))) {
			t.Fatalf("%q: of %v\n%v, not\n%v", impl.ProgText(p), h, m, modelMoveIn(h, shapeAt(i)))
		}
		sameAsHeap(t, p, m, h)
		frames := 1
		if h.Now == -1 {
			frames = 0
		}
		if impl.MachFrames(m) != frames || impl.MachTwins(m) != frames || len(m.Twins) != len(h.Calls) {
			t.Fatalf("%q: of %v\n%v", impl.ProgText(p), h, m)
		}
		met.add(standing(h.Code, h.Born), waysToCalls(h))
	})
	met.ask(t, 100)
}

// P67. MoveOut of MoveIn is HeapTrim.
func TestMovedInAndOut(t *testing.T) {
	t.Parallel()
	i, fewer := 0, 0
	eachHeapToMove(func(p impl.Prog, h impl.Heap) {
		i++
		trim := trimHeap(t, p, h)
		if out := moveOut(t, p, moveIn(t, p, h, shapeAt(i))); !sameHeap(out, trim) {
			t.Fatalf("%q: of %v\n%v, not\n%v", impl.ProgText(p), h, out, trim)
		}
		fewer = counted(fewer, len(trim.Calls) < len(h.Calls))
	})
	if fewer < 1000 {
		t.Errorf("only %d", fewer)
	}
}

// P70. MoveTo is ok, seen the same, with those pages.
func TestMoveTo(t *testing.T) {
	t.Parallel()
	met, i := tally{}, 0
	eachMachToMove(func(p impl.Prog, m impl.Mach) {
		i++
		shape := shapeAt(i)
		out := moveTo(t, p, m, shape)
		if !impl.MachOk(p, out) || len(out.Pages) != shape.rooms || out.Cells != shape.cells {
			t.Fatalf("%q: of %v\nto %v\n%v", impl.ProgText(p), m, shape, out)
		}
		if !sameMach(out, moveIn(t, p, moveOut(t, p, m), shape)) || !sameMach(out, modelMoveIn(modelMoveOut(m), shape)) {
			t.Fatalf("%q: of %v\nto %v\n%v", impl.ProgText(p), m, shape, out)
		}
		sameAsHeap(t, p, out, modelMoveOut(m))
		met.add(map[string]bool{
			"more pages":      shape.rooms > len(m.Pages),
			"fewer pages":     shape.rooms < len(m.Pages),
			"as many":         shape.rooms == len(m.Pages),
			"more cells":      shape.cells > m.Cells,
			"fewer cells":     shape.cells < m.Cells,
			"those it had":    shape == machShape{len(m.Pages), m.Cells},
			"one page":        shape.rooms == 1,
			"fewest of all":   shape == machShape{1, 14},
			"most of all":     shape == machShape{4, 60},
			"a frame was out": len(out.Twins) > impl.MachFrames(m),
		})
	})
	met.ask(t, 100)
}

// P72. Moved twice it is as moved once.
func TestMovedTwice(t *testing.T) {
	t.Parallel()
	i := 0
	eachMachToMove(func(p impl.Prog, m impl.Mach) {
		i++
		shape, other := shapeAt(i), shapeAt(i*5+1)
		once := moveTo(t, p, m, shape)
		if twice := moveTo(t, p, once, shape); !sameMach(once, twice) {
			t.Fatalf("%q: of %v\n%v, then\n%v", impl.ProgText(p), m, once, twice)
		}
		if over := moveTo(t, p, moveTo(t, p, m, other), shape); !sameMach(once, over) {
			t.Fatalf("%q: of %v\nover %v\n%v, not\n%v", impl.ProgText(p), m, other, over, once)
		}
		// Out, in and out again nothing is left to leave out, nor to number anew.
		h := moveOut(t, p, m)
		if again := moveOut(t, p, once); !sameHeap(h, again) {
			t.Fatalf("%q: of %v\n%v, then\n%v", impl.ProgText(p), m, h, again)
		}
	})
}

// All that a moved machine is, of a program that looks at a call that has returned.
func TestWhatIsMoved(t *testing.T) {
	t.Parallel()
	p := readProg(t, "method 0 2", "call 1", "set 0", "num 8", "call 1", "say", "ret", "method 0 1", "num 4", "set 0", "here", "ret")
	m := ranMach(t, p, 2, 14, 10)
	h := moveOut(t, p, m)
	want := impl.Heap{Calls: []impl.Call{
		{Method: 1, Pc: 2, Temps: vals(number(4)), Sender: 1},
		{Method: 0, Pc: 4, Temps: vals(callVal(2), none), Stack: vals(number(8)), Sender: -1},
		{Method: 1, Pc: 4, Temps: vals(number(4)), Sender: -1, Dead: true},
	}, Born: 3}
	if !sameHeap(h, want) {
		t.Errorf("%v, not %v", h, want)
	}
	in := impl.Mach{
		Cells: 30,
		Pages: []impl.Page{{Base: 1, Frames: []impl.Frame{{Method: 1, Pc: 2, Twin: 0, Temps: vals(number(4))}}}, {Base: -1}, {Base: -1}},
		Order: []int{1, 2, 0},
		Twins: []impl.Twin{{Page: 0}, {Page: -1, Left: want.Calls[1]}, {Page: -1, Left: want.Calls[2]}},
		Born:  3,
	}
	if got := moveTo(t, p, m, machShape{3, 30}); !sameMach(got, in) {
		t.Errorf("%v, not %v", got, in)
	}
	// Each call is a twin, in order, wherever the one that runs stands, and whether one comes to it or not.
	h = ranHeap(t, p, 10)
	moved := moveIn(t, p, h, machShape{2, 20})
	if got := form(moved); got != "0[2], -[], [1 0], now 0, 0<-, 1 dead, 2=0.0" {
		t.Error(got)
	}
	end := runMach(t, p, moved, 400)
	if again := moveOut(t, p, end); end.Code != 1 || len(end.Twins) != 3 || !sameHeap(again, impl.Heap{Now: -1, Born: 3, Said: vals(callVal(1), number(8)), Code: 1}) {
		t.Errorf("%v, then %v", end, again)
	}
	for rooms, want := range map[int]string{
		1: "-[], [0], now -",
		2: "-[], -[], [1 0], now -",
		4: "-[], -[], -[], -[], [1 2 3 0], now -",
	} {
		if got := form(moveTo(t, p, end, machShape{rooms, 40})); got != want {
			t.Errorf("%s, not %s", got, want)
		}
		if got := form(moveIn(t, p, runHeap(t, p, h, 400), machShape{rooms, 40})); got != want+", 0 dead, 1 dead, 2 dead" {
			t.Errorf("%s, not %s", got, want)
		}
	}
}

// P65, P66, P67, P70, P72. The edges, each on the fewest and the most pages and cells.
func TestEdgesOfMoving(t *testing.T) {
	t.Parallel()
	p := edgeProg(t)
	for _, x := range edgeHeaps() {
		if !impl.HeapOk(p, x.h) {
			t.Fatalf("%s: %v is not ok", x.name, x.h)
		}
		for _, shape := range edgeShapes() {
			m := moveIn(t, p, x.h, shape)
			if !impl.MachOk(p, m) || !sameMach(m, modelMoveIn(x.h, shape)) {
				t.Errorf("%s: %v", x.name, m)
			}
			sameAsHeap(t, p, m, x.h)
			if h := moveOut(t, p, m); !sameHeap(h, trimHeap(t, p, x.h)) || !impl.HeapOk(p, h) {
				t.Errorf("%s: %v", x.name, h)
			}
			for _, other := range edgeShapes() {
				if to := moveTo(t, p, m, other); !impl.MachOk(p, to) || !sameMach(to, modelMoveIn(trimHeap(t, p, x.h), other)) {
					t.Errorf("%s: from %v to %v %v", x.name, shape, other, to)
				}
			}
		}
	}
}

// callsOut is how many calls there are, once a heap was moved in and out.
func callsOut(t *testing.T, h impl.Heap) int {
	t.Helper()
	p := edgeProg(t)
	return len(moveOut(t, p, moveIn(t, p, h, machShape{2, 20})).Calls)
}

// What is come to stays, by whatever one comes to it; else it is left out.
func TestWhoIsMovedOut(t *testing.T) {
	t.Parallel()
	want := map[string]int{
		"one call": 1, "only by temps": 3, "only by temps of one that waits": 3, "only by values": 3, "only by values of one that waits": 3,
		"only by a Dead call's temps": 4, "not at all": 1, "not at all, though they tell who runs": 1, "itself": 1, "six values": 2,
		"thirty that wait": 30, "ended, without calls": 0, "ended, with calls": 0,
	}
	asked := 0
	for _, x := range edgeHeaps() {
		calls, ask := want[x.name]
		if got := callsOut(t, x.h); ask && got != calls {
			t.Errorf("%s: %d, not %d", x.name, got, calls)
		}
		asked = counted(asked, ask)
	}
	if asked != len(want) {
		t.Errorf("only %d", asked)
	}
}

// So many pages, so many cells; with any others nothing is moved.
func TestBoundsOfMoving(t *testing.T) {
	t.Parallel()
	p := edgeProg(t)
	m, h := ranMach(t, p, 2, 30, 6), ranHeap(t, p, 6)
	end, ended := ranMach(t, p, 2, 30, 400), ranHeap(t, p, 400)
	if end.Code != 1 || ended.Code != 1 || m.Code != 0 {
		t.Fatal("not as they are to stand")
	}
	for _, rooms := range []int{math.MinInt, -1, 0, 1, 2, 3, 4, 5, 6, math.MaxInt} {
		for _, cells := range []int{math.MinInt, -14, 0, 13, 14, 15, 59, 60, 61, math.MaxInt} {
			want := rooms >= 1 && rooms <= 4 && cells >= 14 && cells <= 60
			for _, from := range []impl.Heap{h, ended} {
				if out, ok := impl.MoveIn(p, from, rooms, cells); ok != want || !ok && !sameMach(out, impl.Mach{}) {
					t.Errorf("in to %d pages of %d cells: %v, %v", rooms, cells, out, ok)
				}
			}
			for _, from := range []impl.Mach{m, end} {
				if out, ok := impl.MoveTo(p, from, rooms, cells); ok != want || !ok && !sameMach(out, impl.Mach{}) {
					t.Errorf("to %d pages of %d cells: %v, %v", rooms, cells, out, ok)
				}
			}
		}
	}
}

// notMoved asks that a machine, and a heap, that is not ok, or not of this program, is not moved.
func notMoved(t *testing.T, name string, p impl.Prog, m impl.Mach, h impl.Heap) {
	t.Helper()
	if out, ok := impl.MoveOut(p, m); ok || !sameHeap(out, impl.Heap{}) {
		t.Errorf("%s, out: %v, %v", name, out, ok)
	}
	for _, shape := range append(edgeShapes(), machShape{0, 30}, machShape{2, 13}) {
		if out, ok := impl.MoveTo(p, m, shape.rooms, shape.cells); ok || !sameMach(out, impl.Mach{}) {
			t.Errorf("%s, to %v: %v, %v", name, shape, out, ok)
		}
		if out, ok := impl.MoveIn(p, h, shape.rooms, shape.cells); ok || !sameMach(out, impl.Mach{}) {
			t.Errorf("%s, in to %v: %v, %v", name, shape, out, ok)
		}
	}
}

// What is not ok is not moved (all machines and heaps that are not ok, in the tests of these, are asked likewise).
func TestMovingWhatIsNotOk(t *testing.T) {
	t.Parallel()
	notMoved(t, "nothing", okHeapProg(t), impl.Mach{}, impl.Heap{})
	notMoved(t, "nothing at all", impl.Prog{}, impl.Mach{}, impl.Heap{})
	for name, p := range otherProgs(t) {
		notMoved(t, name, p, okMach(), okHeap())
	}
	p := okHeapProg(t)
	for name, born := range map[string]int{"none born": 0, "one more than HeapBorn": 31, "fewer born than calls": 4, "far off": math.MaxInt} {
		m, h := okMach(), okHeap()
		m.Born, h.Born = born, born
		notMoved(t, name, p, m, h)
	}
	for _, code := range []int{-1, 1, 4} {
		m, h := okMach(), okHeap()
		m.Code, h.Code = code, code
		notMoved(t, "another code", p, m, h)
	}
	m, h := okMach(), okHeap()
	m.Now, h.Now = -1, -1
	notMoved(t, "none runs, and some wait", p, m, h)
	m, h = okMach(), okHeap()
	m.Pages[0].Frames[0].Temps[0], h.Calls[nowCall].Temps[0] = callVal(9), callVal(9)
	notMoved(t, "a temp is no call", p, m, h)
}

// spoilHeap writes over all of an answer; each of its lists must stay till it is written over itself.
func spoilHeap(t *testing.T, name string, h impl.Heap, kept func() bool) {
	t.Helper()
	checkOwn(t, name, append(listsOf(h.Calls), h.Said), kept)
	spoil(h.Calls, impl.Call{Method: 88})
	if !kept() {
		t.Fatalf("%s: an argument is written into", name)
	}
}

// What is moved is new memory, and shares none with an argument; an argument is not written into, nor behind its end.
func TestMovedIsNewMemory(t *testing.T) {
	t.Parallel()
	check := func(i int, prog impl.Prog, was impl.Mach, from impl.Heap) {
		m, h, p := roomyMach(was), roomy(from), copyProg(prog)
		kept := func() bool {
			return sameMach(m, was) && machRoomKept(m) && sameHeap(h, from) && roomKept(h) && sameProg(p, prog)
		}
		spoilHeap(t, "MoveOut", moveOut(t, p, m), kept)
		spoilMach(t, "MoveIn", moveIn(t, p, h, shapeAt(i)), kept)
		spoilMach(t, "MoveTo", moveTo(t, p, m, shapeAt(i)), kept)
		// What is refused is left as it was, too.
		impl.MoveIn(p, h, 0, 30)
		impl.MoveTo(p, m, 5, 30)
		if !kept() {
			t.Fatal("an argument is written into")
		}
	}
	for i, x := range machTraces() {
		for _, at := range []int{len(x.machs) / 2, len(x.machs) - 1} {
			check(i, x.p, x.machs[at], x.heaps[at])
		}
	}
	for i, x := range oddMachs()[:2000] {
		check(i, x.p, x.m, x.h)
	}
	p := edgeProg(t)
	for i, x := range edgeHeaps() {
		check(i, p, modelMoveIn(x.h, shapeAt(i)), x.h)
	}
}

// Moved machines do not hang together: what is done to one of them changes nothing of the other, nor of what it was moved from.
func TestMovedOnesGoTheirOwnWays(t *testing.T) {
	t.Parallel()
	for i, x := range machTraces() {
		m := x.machs[len(x.machs)/3]
		was := copyMach(m)
		a, b := moveTo(t, x.p, m, shapeAt(i)), moveTo(t, x.p, m, shapeAt(i))
		wasB := copyMach(b)
		runMach(t, x.p, a, 50)
		flushMach(t, x.p, a, 0)
		spoil(a.Twins, impl.Twin{At: 88})
		if !sameMach(m, was) || !sameMach(b, wasB) {
			t.Fatalf("%q: %v, then %v", impl.ProgText(x.p), was, m)
		}
	}
}
