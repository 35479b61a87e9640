package tests

import (
	"math/rand"
	"slices"
	"testing"

	"loop.example/gemel/impl"
)

// P84. Whatever turns are taken, what is said, and seen, is that of the heap after as many operations. (THE SAME.)
func TestWhateverTurnsAreTaken(t *testing.T) {
	t.Parallel()
	met := tally{}
	eachTurns(t, func(x turnCase) {
		out := turnsDone(t, x.p, x.m, x.turns...)
		after := heapAfter(t, x.p, x.h, modelSteps(x.turns))
		sameAsHeap(t, x.p, out, after)
		if impl.TurnSteps(x.turns) != modelSteps(x.turns) || impl.SaidText(out.Said) != impl.SaidText(after.Said) || !impl.MachOk(x.p, out) {
			t.Fatalf("%q: of %v by %v\n%v, not as\n%v", impl.ProgText(x.p), x.m, x.turns, out, after)
		}
		met.add(turnsMet(len(x.m.Pages), x.turns), standing(after.Code, after.Born), layout(out), map[string]bool{
			"more is said": len(after.Said) > len(x.h.Said), "more are born": after.Born > x.h.Born,
			"it ends by a turn": x.m.Code == 0 && after.Code == 1, "it is stuck by a turn": x.m.Code == 0 && after.Code == 2, "it is full by a turn": x.m.Code == 0 && after.Code == 3,
		})
	})
	met.ask(t, 50)
}

// toTheEnd are turns of many operations, with all that can be done between them.
func toTheEnd() []turnList {
	run := turnRun(400)
	return []turnList{
		slices.Repeat(turnList{run}, 20),
		{turnRun(1), turnFlush(0), turnRun(2), turnFlush(1), turnRun(3), turnMove(2), turnRun(5), turnFlush(1), turnRun(7), turnFlush(0), turnRun(9), turnMove(4), turnRun(20), run, run},
		{turnMove(1), turnRun(4), turnMove(3), turnRun(8), turnMove(2), turnRun(12), turnRun(401), turnMove(4), turnRun(16), turnMove(5), turnRun(20), turnFlush(-1), run, turnMove(1), run},
	}
}

// P85. To the end what is said, and seen, is that of the heap. (THE SAME.)
func TestTurnsToTheEnd(t *testing.T) {
	t.Parallel()
	met := tally{}
	ask := func(p impl.Prog, m impl.Mach, h impl.Heap) {
		for _, turns := range toTheEnd() {
			out, end := turnsDone(t, p, m, turns...), heapAfter(t, p, h, impl.TurnSteps(turns))
			sameAsHeap(t, p, out, end)
			met.add(standing(end.Code, end.Born), map[string]bool{"nothing is seen": out.Now == -1 && len(impl.MachView(out)) == 0})
			if end.Code == 0 {
				continue
			}
			// At the end no more turns change anything of it.
			for _, more := range toTheEnd() {
				sameAsHeap(t, p, turnsDone(t, p, out, more...), end)
			}
		}
	}
	for i, x := range machTraces() {
		if i%3 == 0 || i >= len(machTraces())-100 {
			ask(x.p, x.machs[0], x.heaps[0])
		}
	}
	for i, x := range oddMachs() {
		if i%6 == 0 {
			ask(x.p, x.m, x.h)
		}
	}
	met.ask(t, 100)
}

// P85. Whole programs, by what is written of all that they said.
func TestWholeProgramsByTurns(t *testing.T) {
	t.Parallel()
	for i, x := range []struct {
		p    impl.Prog
		want string
		code int
	}{
		{readProg(t, "method 0 0", "call 1", "say", "num 2", "ret", "method 0 0", "num 1", "ret"), "1;2;", 1},
		{readProg(t, "method 0 1", "call 1", "set 0", "temp 0", "dead", "say", "temp 0", "sender", "say", "temp 0", "peek 0", "ret", "method 0 1", "num 7", "set 0", "here", "ret"), "1;none;7;", 1},
		{readProg(t, "method 0 0", "call 1", "say", "num 0", "ret", "method 0 0", "here", "call 2", "ret", "method 1 1", "temp 0", "sender", "num 9", "back", "ret"), "9;0;", 1},
		{readProg(t, "method 0 0", "here", "say", "here", "sender", "sender", "ret"), "call 0;", 2},
		{readProg(t, "method 0 0", "num 3", "say", "call 0", "ret"), impl.SaidText(slices.Repeat(vals(number(3)), 30)), 3},
	} {
		for rooms := 1; rooms <= 4; rooms++ {
			for _, cells := range []int{14, 15, 20, 28, 60} {
				for _, turns := range toTheEnd() {
					out := turnsDone(t, x.p, newMach(t, x.p, rooms, cells), turns...)
					if text := impl.SaidText(out.Said); text != x.want || out.Code != x.code {
						t.Errorf("program %d on %d pages of %d cells by %v: %q, %d", i, rooms, cells, turns, text, out.Code)
					}
				}
			}
		}
	}
}

// P86. However many pages there are, of how many cells, the same is said, and seen.
func TestTurnsOnAllShapes(t *testing.T) {
	t.Parallel()
	r := rand.New(rand.NewSource(14))
	for i, x := range machTraces() {
		if i%150 != 0 && i < len(machTraces())-36 {
			continue
		}
		turns := randomTurns(r)
		after := heapAfter(t, x.p, x.heaps[0], impl.TurnSteps(turns))
		end := heapAfter(t, x.p, x.heaps[0], 8000)
		for rooms := 1; rooms <= 4; rooms++ {
			for cells := 14; cells <= 60; cells++ {
				m := newMach(t, x.p, rooms, cells)
				sameAsHeap(t, x.p, turnsDone(t, x.p, m, turns...), after)
				if (rooms+cells)%9 == 0 {
					sameAsHeap(t, x.p, turnsDone(t, x.p, m, toTheEnd()[0]...), end)
				}
			}
		}
	}
}

// eachOperation lets all programs, on pages of all kinds, take some turns of one operation each, and asks that they are seen as the heap
// after as many; then as many of them at once as may be come to the same. The number is of turns that one operation takes.
func eachOperation(t *testing.T, number int, turnsOf func(i int, m impl.Mach) turnList) {
	t.Helper()
	for i, x := range machTraces() {
		m, from, all := x.machs[0], x.machs[0], turnList{}
		for steps := 1; steps < len(x.heaps); steps++ {
			turns := turnsOf(i+steps, m)
			if len(turns) != number || impl.TurnSteps(turns) != 1 {
				t.Fatalf("%v", turns)
			}
			m = turnsDone(t, x.p, m, turns...)
			sameAsHeap(t, x.p, m, x.heaps[steps])
			if !impl.MachOk(x.p, m) {
				t.Fatalf("%q: %v is not ok", impl.ProgText(x.p), m)
			}
			if all = append(all, turns...); len(all)+number > 20 {
				if once := turnsDone(t, x.p, from, all...); !sameMach(once, m) {
					t.Fatalf("%q: of %v by %v\n%v, not\n%v", impl.ProgText(x.p), from, all, once, m)
				}
				from, all = m, nil
			}
		}
	}
}

// P87. After each operation the same is seen.
func TestTurnsOfEachOperation(t *testing.T) {
	t.Parallel()
	eachOperation(t, 1, func(int, impl.Mach) turnList { return turnList{turnRun(1)} })
}

// P88. Moved after each operation the same is said, and seen.
func TestTurnsMovedAfterEachOperation(t *testing.T) {
	t.Parallel()
	eachOperation(t, 2, func(i int, _ impl.Mach) turnList { return turnList{turnRun(1), turnMove(1 + i*7%4)} })
}

// P89. Flushed after each operation the same is said, and seen: all pages, or one of them.
func TestTurnsFlushedAfterEachOperation(t *testing.T) {
	t.Parallel()
	eachOperation(t, 5, func(int, impl.Mach) turnList {
		return turnList{turnRun(1), turnFlush(0), turnFlush(1), turnFlush(2), turnFlush(3)}
	})
	eachOperation(t, 2, func(i int, m impl.Mach) turnList { return turnList{turnRun(1), turnFlush(i * 5 % len(m.Pages))} })
	// The one that ran ahead of the operation.
	eachOperation(t, 2, func(_ int, m impl.Mach) turnList { return turnList{turnRun(1), turnFlush(m.Now)} })
}

// P88, P89. Moved, and flushed, after each operation the same is said at the end, and seen.
func TestMovedAndFlushedToTheEnd(t *testing.T) {
	t.Parallel()
	for i, x := range machTraces() {
		if i%4 != 0 && i < len(machTraces())-100 {
			continue
		}
		moved, flushed := x.machs[0], x.machs[0]
		for steps := 0; steps < 400 && moved.Code == 0; steps += 4 {
			var moves, flushes turnList
			for n := range 4 {
				moves = append(moves, turnRun(1), turnMove(1+(i+n)%4))
				flushes = append(flushes, turnRun(1), turnFlush(0), turnFlush(1), turnFlush(2), turnFlush(3))
			}
			moved, flushed = turnsDone(t, x.p, moved, moves...), turnsDone(t, x.p, flushed, flushes...)
		}
		end := runHeap(t, x.p, x.heaps[0], 400)
		sameAsHeap(t, x.p, moved, end)
		sameAsHeap(t, x.p, flushed, end)
	}
}

// P90. What is said on pages begins what the heap says.
func TestSaidOnPagesBeginsWhatTheHeapSays(t *testing.T) {
	t.Parallel()
	shorter, some := 0, 0
	eachTurns(t, func(x turnCase) {
		out, steps := turnsDone(t, x.p, x.m, x.turns...), modelSteps(x.turns)
		for _, more := range []int{0, 1, 5, 400} {
			said := heapAfter(t, x.p, x.h, steps+more).Said
			if len(out.Said) > len(said) || !slices.Equal(out.Said, said[:len(out.Said)]) || len(out.Said) < len(x.m.Said) {
				t.Fatalf("%q: of %v by %v\n%v, not of %v", impl.ProgText(x.p), x.m, x.turns, out.Said, said)
			}
			shorter, some = counted(shorter, len(out.Said) < len(said)), counted(some, len(out.Said) > len(x.m.Said))
		}
	})
	if shorter < 500 || some < 500 {
		t.Errorf("only %d, %d", shorter, some)
	}
}

// P93. Turns are seen as MachRun of TurnSteps.
func TestTurnsAsMachRunOfTurnSteps(t *testing.T) {
	t.Parallel()
	asked, refused := 0, 0
	eachTurns(t, func(x turnCase) {
		out := turnsDone(t, x.p, x.m, x.turns...)
		ran, ok := impl.MachRun(x.p, x.m, impl.TurnSteps(x.turns))
		if ok != (modelSteps(x.turns) <= 400) {
			t.Fatalf("%v: %v", x.turns, ok)
		}
		asked, refused = counted(asked, ok), counted(refused, !ok)
		if ok {
			sameMachSeen(t, x.p, out, ran)
		}
	})
	if asked < 1000 || refused < 50 {
		t.Errorf("only %d, %d", asked, refused)
	}
}

// P94. Without TurnRun nothing changes of what is said, and seen.
func TestWithoutTurnRun(t *testing.T) {
	t.Parallel()
	met := tally{}
	eachTurns(t, func(x turnCase) {
		turns := withoutRun(x.turns)
		out := turnsDone(t, x.p, x.m, turns...)
		sameAsHeap(t, x.p, out, x.h)
		sameMachSeen(t, x.p, out, x.m)
		if impl.TurnSteps(turns) != 0 {
			t.Fatalf("%v: %d", turns, impl.TurnSteps(turns))
		}
		// Of those that do none, and of none that can be, it is the same.
		sameAsHeap(t, x.p, turnsDone(t, x.p, x.m, turnRun(0), turnFlush(0), turnRun(401), turnMove(2), turnRun(-1), turnFlush(1)), x.h)
		met.add(standing(x.m.Code, x.m.Born), layout(x.m), layout(out), map[string]bool{"laid out anew": !sameMach(out, x.m)})
	})
	met.ask(t, 50)
}

// P94. Turns that do no operation change nothing of what comes then, either.
func TestThenWithoutTurnRun(t *testing.T) {
	t.Parallel()
	i := 0
	eachTurns(t, func(x turnCase) {
		i++
		steps := []int{1, 2, 5, 11, 400}[i%5]
		out := turnsDone(t, x.p, turnsDone(t, x.p, x.m, withoutRun(x.turns)...), turnRun(steps))
		sameAsHeap(t, x.p, out, runHeap(t, x.p, x.h, steps))
	})
}
