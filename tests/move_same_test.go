package tests

import (
	"math/rand"
	"testing"

	"loop.example/gemel/impl"
)

// eachThen hands over machines, how many operations are to be done then, and the heaps that they are seen as, ahead of these and behind.
func eachThen(t *testing.T, look func(p impl.Prog, m impl.Mach, steps int, before, after impl.Heap)) {
	t.Helper()
	for i, x := range machTraces() {
		last := len(x.machs) - 1
		for _, cut := range []int{last / 2, i * 7 % (last + 1), last} {
			for _, steps := range []int{0, 1 + i%11, last - cut} {
				steps = min(steps, last-cut)
				look(x.p, x.machs[cut], steps, x.heaps[cut], x.heaps[cut+steps])
			}
		}
		if i%9 == 0 || i >= len(machTraces())-100 {
			cut := i * 5 % (last + 1)
			look(x.p, x.machs[cut], 400, x.heaps[cut], runHeap(t, x.p, x.heaps[cut], 400))
		}
	}
	for i, x := range oddMachs() {
		for _, steps := range []int{0, 1, 2, 3 + i%30, 400} {
			look(x.p, x.m, steps, x.h, runHeap(t, x.p, x.h, steps))
		}
	}
	p := edgeProg(t)
	for _, x := range edgeHeaps() {
		for _, shape := range edgeShapes() {
			for _, steps := range []int{0, 1, 2, 3, 4, 5, 6, 12, 20, 399, 400} {
				look(p, modelMoveIn(x.h, shape), steps, x.h, runHeap(t, p, x.h, steps))
			}
		}
	}
}

// P68. Moved out the same is said, and seen then. (THE SAME.)
func TestMovedOutTheSameThen(t *testing.T) {
	t.Parallel()
	met := tally{}
	eachThen(t, func(p impl.Prog, m impl.Mach, steps int, _, after impl.Heap) {
		out := runHeap(t, p, moveOut(t, p, m), steps)
		then := runMach(t, p, m, steps)
		sameAsHeap(t, p, then, out)
		sameSeen(t, p, out, after)
		met.add(layout(m), standing(out.Code, out.Born), map[string]bool{"more is said": len(out.Said) > len(m.Said), "more are born": out.Born > m.Born})
	})
	met.ask(t, 100)
}

// P69. Moved in the same is said, and seen then. (THE SAME.)
func TestMovedInTheSameThen(t *testing.T) {
	t.Parallel()
	met, i := tally{}, 0
	eachThen(t, func(p impl.Prog, _ impl.Mach, steps int, before, after impl.Heap) {
		i++
		then := runMach(t, p, moveIn(t, p, before, shapeAt(i)), steps)
		sameAsHeap(t, p, then, after)
		if !impl.MachOk(p, then) {
			t.Fatalf("%q: %v is not ok", impl.ProgText(p), then)
		}
		met.add(waysToCalls(before), standing(after.Code, after.Born), map[string]bool{"more is said": len(after.Said) > len(before.Said), "more are born": after.Born > before.Born})
	})
	met.ask(t, 100)
}

// P69, P71. Whatever the number of pages and cells, moved there the same is said, and seen.
func TestMovedToAllShapes(t *testing.T) {
	t.Parallel()
	for i, x := range machTraces() {
		if i%200 != 0 && i < len(machTraces())-36 {
			continue
		}
		at := len(x.machs) / 2
		end := runHeap(t, x.p, x.heaps[at], 400)
		for rooms := 1; rooms <= 4; rooms++ {
			for cells := 14; cells <= 60; cells++ {
				shape := machShape{rooms, cells}
				sameAsHeap(t, x.p, runMach(t, x.p, moveIn(t, x.p, x.heaps[at], shape), 400), end)
				sameAsHeap(t, x.p, runMach(t, x.p, moveTo(t, x.p, x.machs[at], shape), 400), end)
			}
		}
	}
}

// P71. With other pages the same is said, and seen then.
func TestMovedToOtherPagesTheSameThen(t *testing.T) {
	t.Parallel()
	met, i := tally{}, 0
	eachThen(t, func(p impl.Prog, m impl.Mach, steps int, _, after impl.Heap) {
		i++
		then := runMach(t, p, m, steps)
		moved := runMach(t, p, moveTo(t, p, m, shapeAt(i)), steps)
		sameMachSeen(t, p, moved, then)
		sameAsHeap(t, p, moved, after)
		if !impl.MachOk(p, moved) {
			t.Fatalf("%q: %v is not ok", impl.ProgText(p), moved)
		}
		met.add(layout(m), layout(moved), standing(moved.Code, moved.Born))
	})
	met.ask(t, 100)
}

// P73. Flushed the same is said, and seen then. (THE SAME.)
func TestFlushedTheSameThen(t *testing.T) {
	t.Parallel()
	met := tally{}
	eachThen(t, func(p impl.Prog, m impl.Mach, steps int, _, after impl.Heap) {
		then, all := runMach(t, p, m, steps), m
		for page := range m.Pages {
			flushed := runMach(t, p, flushMach(t, p, m, page), steps)
			sameMachSeen(t, p, flushed, then)
			all = flushMach(t, p, all, page)
			met.add(map[string]bool{
				"the page that runs":   page == m.Now && len(m.Pages[page].Frames) > 1,
				"another page":         page != m.Now && len(m.Pages[page].Frames) > 0,
				"a page of several":    page != m.Now && len(m.Pages[page].Frames) > 1,
				"one without frames":   len(m.Pages[page].Frames) == 0,
				"what has no twin yet": len(flushed.Twins) > len(then.Twins),
			}, standing(then.Code, then.Born))
		}
		sameAsHeap(t, p, runMach(t, p, all, steps), after)
	})
	met.ask(t, 100)
}

// Programs that are run, flushed and moved, anyhow, say the same, and are seen the same, as the heap after as many operations.
func TestRunFlushedAndMovedAnyhow(t *testing.T) {
	t.Parallel()
	r := rand.New(rand.NewSource(11))
	for i, x := range machTraces() {
		m, steps := x.machs[0], 0
		for steps < len(x.heaps)-1 {
			switch r.Intn(6) {
			case 0:
				m = flushMach(t, x.p, m, r.Intn(len(m.Pages)))
			case 1:
				m = moveTo(t, x.p, m, shapeAt(r.Intn(188)))
			case 2:
				m = moveIn(t, x.p, runHeap(t, x.p, moveOut(t, x.p, m), 1), shapeAt(i))
				steps++
			default:
				more := min(r.Intn(4), len(x.heaps)-1-steps)
				m, steps = runMach(t, x.p, m, more), steps+more
			}
			if !impl.MachOk(x.p, m) {
				t.Fatalf("%q: %v is not ok", impl.ProgText(x.p), m)
			}
			sameAsHeap(t, x.p, m, x.heaps[steps])
		}
	}
}
