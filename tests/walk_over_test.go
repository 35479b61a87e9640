package tests

import (
	"slices"
	"testing"

	"loop.example/gemel/impl"
)

// P102. HeapOver is one step, if no more wait then; else on till no more do, or as far as may be.
func TestHeapOver(t *testing.T) {
	t.Parallel()
	met := tally{}
	eachHeapWalk(t, func(p impl.Prog, h impl.Heap, most int) {
		want, steps := modelOver(heapGoer(), p, h, most)
		out := heapOver(t, p, h, most)
		if !sameHeap(out, want) || !impl.HeapOk(p, out) {
			t.Fatalf("%q: over %v by %d\n%v, not\n%v", impl.ProgText(p), h, most, out, want)
		}
		one := runHeap(t, p, h, 1)
		if impl.HeapDeep(one) <= impl.HeapDeep(h) && !sameHeap(out, one) {
			t.Fatalf("%q: over %v by %d\n%v, not one step", impl.ProgText(p), h, most, out)
		}
		if out.Code == 0 && impl.HeapDeep(out) > impl.HeapDeep(h) && !sameHeap(out, runHeap(t, p, h, most)) {
			t.Fatalf("%q: over %v by %d\n%v, not as far as may be", impl.ProgText(p), h, most, out)
		}
		met.add(walkMet(h, out, steps, most))
	})
	met.ask(t, 20)
}

// P102. Of each of a program's heaps, operation by operation: the one over it is the first behind it in which no more wait.
func TestHeapOverInTraces(t *testing.T) {
	t.Parallel()
	far := 0
	for i, x := range heapTraces() {
		for from, h := range x.heaps {
			most := 1 + (i+from*7)%40
			to := min(from+1, len(x.heaps)-1)
			for to+1 < len(x.heaps) && to < from+most && len(waiting(x.heaps[to])) > len(waiting(h)) {
				to++
			}
			if x.heaps[to].Code == 0 && to == len(x.heaps)-1 {
				// Not all of its heaps are there.
				continue
			}
			if out := heapOver(t, x.p, h, most); !sameHeap(out, x.heaps[to]) {
				t.Fatalf("%q: after %d over by %d\n%v, not that after %d\n%v", impl.ProgText(x.p), from, most, out, to, x.heaps[to])
			}
			far = counted(far, to > from+5)
		}
	}
	if far < 100 {
		t.Errorf("only %d", far)
	}
}

// P103. HeapOver is HeapRun of some number.
func TestHeapOverIsHeapRun(t *testing.T) {
	t.Parallel()
	some, i := 0, 0
	eachHeapWalk(t, func(p impl.Prog, h impl.Heap, most int) {
		if i++; i%3 > 0 {
			return
		}
		steps := sameNumber(t, p, h, heapOver(t, p, h, most), most)
		if steps == -1 || steps == 0 && h.Code == 0 && opOf(p, h).Kind != impl.OpJump {
			t.Fatalf("%q: over %v by %d is HeapRun of %d", impl.ProgText(p), h, most, steps)
		}
		some = counted(some, steps > 1)
	})
	if some < 300 {
		t.Errorf("only %d", some)
	}
}

// P102, P104. Over each operation of calls within calls, by each number of operations, on things and on pages: one stops when no more wait
// than did, back out of calls too, or when most is reached.
func TestOverCallsWithinCalls(t *testing.T) {
	t.Parallel()
	eachWalkProg(t, func(x walkProg, p impl.Prog, heaps []impl.Heap) {
		for from, h := range heaps {
			for _, most := range mosts() {
				want := heaps[min(x.over[from], from+most)]
				if out := heapOver(t, p, h, most); !sameHeap(out, want) {
					t.Fatalf("%s: after %d over by %d\n%v, not\n%v", x.name, from, most, out, want)
				}
				for _, shape := range edgeShapes() {
					m := ranMach(t, p, shape.rooms, shape.cells, from)
					out := machOver(t, p, m, most)
					sameAsHeap(t, p, out, want)
					if !sameMach(out, ranMach(t, p, shape.rooms, shape.cells, min(x.over[from], from+most))) {
						t.Fatalf("%s, on %v: after %d over by %d\n%v", x.name, shape, from, most, out)
					}
				}
			}
		}
	})
}

// P104. MachOver is seen as HeapOver.
func TestMachOver(t *testing.T) {
	t.Parallel()
	met := tally{}
	eachWalk(t, func(x walkCase) {
		over := heapOver(t, x.p, x.h, x.most)
		out := machOver(t, x.p, x.m, x.most)
		sameAsHeap(t, x.p, out, over)
		want, steps := modelOver(machGoer(), x.p, x.m, x.most)
		if !sameMach(out, want) || !impl.MachOk(x.p, out) {
			t.Fatalf("%q: over %v by %d\n%v, not\n%v", impl.ProgText(x.p), x.m, x.most, out, want)
		}
		sameAsHeap(t, x.p, out, heapOver(t, x.p, moveOut(t, x.p, x.m), x.most))
		met.add(walkMet(x.h, over, steps, x.most), layout(x.m), layout(out))
	})
	met.ask(t, 15)
}

// P104. Over all operations of a program, one behind the other, on things and on pages that are flushed and moved in between.
func TestOverToTheEnd(t *testing.T) {
	t.Parallel()
	met := tally{}
	for i, x := range machTraces() {
		if i%3 > 0 && i < len(machTraces())-100 {
			continue
		}
		h, m := x.heaps[0], x.machs[0]
		for n := 0; n < 60 && h.Code == 0; n++ {
			deep := impl.HeapDeep(h)
			h, m = heapOver(t, x.p, h, 400), machOver(t, x.p, m, 400)
			sameAsHeap(t, x.p, m, h)
			if h.Code == 0 && impl.HeapDeep(h) > deep && !loops(x.p) {
				t.Fatalf("%q: %d wait, then %d", impl.ProgText(x.p), deep, impl.HeapDeep(h))
			}
			switch (i + n) % 3 {
			case 0:
				m = flushMach(t, x.p, m, n%len(m.Pages))
			case 1:
				m = moveTo(t, x.p, m, shapeAt(i+n))
			}
		}
		met.add(standing(h.Code, h.Born))
	}
	met.ask(t, 20)
}

// loops says whether a program may do more operations than are done at once.
func loops(p impl.Prog) bool {
	return slices.ContainsFunc(p.Methods, func(m impl.Method) bool {
		return slices.ContainsFunc(m.Ops, func(op impl.Op) bool {
			return op.Kind == impl.OpJump || op.Kind == impl.OpZero || op.Kind == impl.OpBack
		})
	})
}
