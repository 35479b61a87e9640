package tests

import (
	"slices"
	"testing"

	"loop.example/gemel/impl"
)

// P105. Behind HeapOut the call has returned just if fewer wait; else it runs on, or does not run.
func TestHeapOut(t *testing.T) {
	t.Parallel()
	met := tally{}
	eachHeapWalk(t, func(p impl.Prog, h impl.Heap, most int) {
		for _, most := range []int{0, most} {
			want, steps := modelOut(heapGoer(), p, h, most)
			out := heapOut(t, p, h, most)
			if !sameHeap(out, want) || !impl.HeapOk(p, out) {
				t.Fatalf("%q: out of %v by %d\n%v, not\n%v", impl.ProgText(p), h, most, out, want)
			}
			fewer := impl.HeapDeep(out) < impl.HeapDeep(h)
			returned := h.Now != -1 && out.Calls[h.Now].Dead
			runsOn := h.Now != -1 && out.Code == 0 && slices.Contains(waiting(out), h.Now)
			if fewer != returned || !fewer && !runsOn && out.Code == 0 {
				t.Fatalf("%q: out of %v by %d\n%v: %v, %v, %v", impl.ProgText(p), h, most, out, fewer, returned, runsOn)
			}
			if runsOn && !sameHeap(out, runHeap(t, p, h, most)) {
				t.Fatalf("%q: out of %v by %d\n%v, not as far as may be", impl.ProgText(p), h, most, out)
			}
			met.add(walkMet(h, out, steps, most), map[string]bool{"it has returned": returned, "it runs on": runsOn})
		}
	})
	met.ask(t, 20)
}

// P106. Once it is out, or does not run, more operations change nothing.
func TestMoreOperationsOnceItIsOut(t *testing.T) {
	t.Parallel()
	met, i := tally{}, 0
	eachHeapWalk(t, func(p impl.Prog, h impl.Heap, most int) {
		i++
		out := heapOut(t, p, h, most)
		isOut, still := impl.HeapDeep(out) < impl.HeapDeep(h), out.Code != 0
		met.add(map[string]bool{"is out, and runs": isOut && !still, "is out, and does not run": isOut && still, "does not run": !isOut && still, "not yet": !isOut && !still})
		if !isOut && !still {
			return
		}
		for _, more := range []int{most + 1, most + 1 + i%(401-most), 399, 400} {
			more = max(most, min(more, 400))
			if again := heapOut(t, p, h, more); !sameHeap(again, out) {
				t.Fatalf("%q: out of %v by %d\n%v, by %d\n%v", impl.ProgText(p), h, most, out, more, again)
			}
		}
	})
	met.ask(t, 50)
}

// P106. By one operation more each time, from none on: till it is out, or does not run, each is one step further; then nothing changes.
func TestOutByOneOperationMore(t *testing.T) {
	t.Parallel()
	for i, x := range heapTraces() {
		from := i * 5 % len(x.heaps)
		h, to, ended := x.heaps[from], from, false
		for most := 0; most <= 60 && to < len(x.heaps); most++ {
			out := heapOut(t, x.p, h, most)
			if !sameHeap(out, x.heaps[to]) {
				t.Fatalf("%q: after %d out by %d\n%v, not that after %d\n%v", impl.ProgText(x.p), from, most, out, to, x.heaps[to])
			}
			ended = ended || out.Code != 0 || len(waiting(out)) < len(waiting(h))
			if !ended {
				to++
			}
		}
	}
}

// P108. HeapOut is HeapRun of some number.
func TestHeapOutIsHeapRun(t *testing.T) {
	t.Parallel()
	some, none, i := 0, 0, 0
	eachHeapWalk(t, func(p impl.Prog, h impl.Heap, most int) {
		if i++; i%3 > 0 {
			return
		}
		steps := sameNumber(t, p, h, heapOut(t, p, h, most), most)
		if steps == -1 {
			t.Fatalf("%q: out of %v by %d is no HeapRun", impl.ProgText(p), h, most)
		}
		if steps := sameNumber(t, p, h, heapOut(t, p, h, 0), 0); steps != 0 {
			t.Fatalf("%q: out of %v by none is HeapRun of %d", impl.ProgText(p), h, steps)
		}
		some, none = counted(some, steps > 1), counted(none, steps == 0)
	})
	if some < 300 || none < 100 {
		t.Errorf("only %d, %d", some, none)
	}
}

// P105, P107. Out from each operation of calls within calls, by each number of operations, on things and on pages: one stops when fewer
// wait than did, back out of calls too, or when most is reached.
func TestOutOfCallsWithinCalls(t *testing.T) {
	t.Parallel()
	eachWalkProg(t, func(x walkProg, p impl.Prog, heaps []impl.Heap) {
		for from, h := range heaps {
			for _, most := range append(mosts(), 0) {
				want := heaps[min(x.out[from], from+most)]
				if out := heapOut(t, p, h, most); !sameHeap(out, want) {
					t.Fatalf("%s: after %d out by %d\n%v, not\n%v", x.name, from, most, out, want)
				}
				for _, shape := range edgeShapes() {
					m := ranMach(t, p, shape.rooms, shape.cells, from)
					out := machOut(t, p, m, most)
					sameAsHeap(t, p, out, want)
					if !sameMach(out, ranMach(t, p, shape.rooms, shape.cells, min(x.out[from], from+most))) {
						t.Fatalf("%s, on %v: after %d out by %d\n%v", x.name, shape, from, most, out)
					}
				}
			}
		}
	})
}

// P107. MachOut is seen as HeapOut.
func TestMachOut(t *testing.T) {
	t.Parallel()
	met := tally{}
	eachWalk(t, func(x walkCase) {
		for _, most := range []int{0, x.most} {
			left := heapOut(t, x.p, x.h, most)
			out := machOut(t, x.p, x.m, most)
			sameAsHeap(t, x.p, out, left)
			want, steps := modelOut(machGoer(), x.p, x.m, most)
			if !sameMach(out, want) || !impl.MachOk(x.p, out) {
				t.Fatalf("%q: out of %v by %d\n%v, not\n%v", impl.ProgText(x.p), x.m, most, out, want)
			}
			sameAsHeap(t, x.p, out, heapOut(t, x.p, moveOut(t, x.p, x.m), most))
			met.add(walkMet(x.h, left, steps, most), layout(x.m), layout(out))
		}
	})
	met.ask(t, 20)
}

// P107. Out of all calls that wait, one behind the other, on things and on pages that are flushed and moved in between.
func TestOutToTheEnd(t *testing.T) {
	t.Parallel()
	met := tally{}
	eachWalk(t, func(x walkCase) {
		h, m, last := x.h, x.m, impl.HeapDeep(x.h)
		for n := 0; h.Code == 0 && n < 31; n++ {
			h, m = heapOut(t, x.p, h, 400), machOut(t, x.p, m, 400)
			sameAsHeap(t, x.p, m, h)
			deep := impl.HeapDeep(h)
			if h.Code == 0 && deep >= last && !loops(x.p) {
				t.Fatalf("%q: %d wait, then %d", impl.ProgText(x.p), last, deep)
			}
			last = deep
			m = moveTo(t, x.p, flushMach(t, x.p, m, n%len(m.Pages)), shapeAt(n))
		}
		met.add(standing(h.Code, h.Born), map[string]bool{"all have returned": x.m.Code == 0 && h.Code == 1})
	})
	met.ask(t, 20)
}
