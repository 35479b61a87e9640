package tests

import (
	"runtime"
	"slices"
	"sync"
	"testing"
	"time"

	"loop.example/gemel/impl"
)

// P99, P101, P104, P107. However many pages there are, of how many cells, it goes on the same.
func TestGoingOnOnAllShapes(t *testing.T) {
	t.Parallel()
	for i, x := range machTraces() {
		if i%150 != 0 && i < len(machTraces())-36 {
			continue
		}
		at := i * 3 % len(x.heaps)
		h, most := x.heaps[at], []int{1, 7, 30, 400}[i%4]
		over, out := heapOver(t, x.p, h, most), heapOut(t, x.p, h, most)
		next, isNext := impl.HeapNext(x.p, h)
		for rooms := 1; rooms <= 4; rooms++ {
			for cells := 14; cells <= 60; cells++ {
				m := ranMach(t, x.p, rooms, cells, at)
				sameAsHeap(t, x.p, machOver(t, x.p, m, most), over)
				sameAsHeap(t, x.p, machOut(t, x.p, m, most), out)
				if op, ok := impl.MachNext(x.p, m); op != next || ok != isNext || !slices.Equal(impl.MachMethods(x.p, m), impl.HeapMethods(x.p, h)) {
					t.Fatalf("%q: of %v next %v, %v, not %v", impl.ProgText(x.p), m, op, ok, next)
				}
			}
		}
	}
}

// P104, P107. Flushed, moved, and with what one does not come to left out it goes on the same.
func TestGoingOnFlushedAndMoved(t *testing.T) {
	t.Parallel()
	i := 0
	eachWalk(t, func(x walkCase) {
		if i++; i%3 > 0 {
			return
		}
		over, out := heapOver(t, x.p, x.h, x.most), heapOut(t, x.p, x.h, x.most)
		machs := []impl.Mach{moveTo(t, x.p, x.m, shapeAt(i)), moveIn(t, x.p, x.h, shapeAt(i+1))}
		for page := range x.m.Pages {
			machs = append(machs, flushMach(t, x.p, x.m, page))
		}
		for _, m := range machs {
			sameAsHeap(t, x.p, machOver(t, x.p, m, x.most), over)
			sameAsHeap(t, x.p, machOut(t, x.p, m, x.most), out)
		}
		cut := trimHeap(t, x.p, x.h)
		sameSeen(t, x.p, heapOver(t, x.p, cut, x.most), over)
		sameSeen(t, x.p, heapOut(t, x.p, cut, x.most), out)
	})
}

// Where it goes on to is new memory, and shares none with an argument; an argument is not written into, nor behind its end.
func TestGoingOnIsNewMemory(t *testing.T) {
	t.Parallel()
	i := 0
	eachWalk(t, func(x walkCase) {
		if i++; i%2 > 0 {
			return
		}
		m, h, p := roomyMach(x.m), roomy(x.h), copyProg(x.p)
		kept := func() bool {
			return sameMach(m, x.m) && machRoomKept(m) && sameHeap(h, x.h) && roomKept(h) && sameProg(p, x.p)
		}
		for _, most := range []int{1, x.most, 400} {
			spoilHeap(t, "HeapOver", heapOver(t, p, h, most), kept)
			spoilMach(t, "MachOver", machOver(t, p, m, most), kept)
			spoilHeap(t, "HeapOut", heapOut(t, p, h, most), kept)
			spoilMach(t, "MachOut", machOut(t, p, m, most), kept)
		}
		spoilHeap(t, "HeapOut", heapOut(t, p, h, 0), kept)
		spoilMach(t, "MachOut", machOut(t, p, m, 0), kept)
		impl.HeapNext(p, h)
		impl.MachNext(p, m)
		a, b := impl.HeapMethods(p, h), impl.MachMethods(p, m)
		spoil(a, 88)
		if !slices.Equal(b, methodsOfHeap(x.h)) || !kept() {
			t.Fatalf("%q: %v", impl.ProgText(x.p), b)
		}
		spoil(b, 88)
		if !slices.Equal(impl.HeapMethods(p, h), methodsOfHeap(x.h)) || !kept() {
			t.Fatal("an argument is written into")
		}
	})
}

// However goroutines run, and however many ask at once, it goes on to the same.
func TestGoingOnIsAlwaysTheSame(t *testing.T) {
	t.Parallel()
	type answer struct {
		over, out impl.Heap
		on, off   impl.Mach
	}
	ask := func(x walkCase) answer {
		return answer{heapOver(t, x.p, x.h, x.most), heapOut(t, x.p, x.h, x.most), machOver(t, x.p, x.m, x.most), machOut(t, x.p, x.m, x.most)}
	}
	i := 0
	eachWalk(t, func(x walkCase) {
		if i++; i%40 > 0 {
			return
		}
		first := ask(x)
		var asking sync.WaitGroup
		for range 8 {
			asking.Go(func() {
				for range 3 {
					again := ask(x)
					if !sameHeap(again.over, first.over) || !sameHeap(again.out, first.out) || !sameMach(again.on, first.on) || !sameMach(again.off, first.off) {
						t.Errorf("%q: of %v by %d\n%v, then\n%v", impl.ProgText(x.p), x.h, x.most, first, again)
					}
				}
			})
		}
		asking.Wait()
	})
}

// All goroutines are joined. (No other test runs beside this one, as it does not ask for that.)
func TestNobodyGoesOnBehindTheAnswer(t *testing.T) {
	p := readProg(t, walkProgs()[1].lines...)
	h, m := newHeap(t, p), newMach(t, p, 2, 14)
	before := runtime.NumGoroutine()
	for most := 1; most <= 400; most++ {
		heapOver(t, p, h, most)
		heapOut(t, p, h, most)
		machOver(t, p, m, most)
		machOut(t, p, m, most)
	}
	// One that is joined may take a moment to be gone.
	for range 500 {
		if runtime.NumGoroutine() <= before {
			return
		}
		time.Sleep(10 * time.Millisecond)
	}
	t.Errorf("%d were there, and %d are", before, runtime.NumGoroutine())
}
