package tests

import (
	"math"
	"math/rand"
	"slices"
	"testing"

	"loop.example/gemel/impl"
)

// turnList is turns.
type turnList = []impl.Turn

func turnRun(steps int) impl.Turn {
	return impl.Turn{Kind: 1, Num: steps}
}

func turnFlush(page int) impl.Turn {
	return impl.Turn{Kind: 2, Num: page}
}

func turnMove(rooms int) impl.Turn {
	return impl.Turn{Kind: 3, Num: rooms}
}

func turnsDone(t *testing.T, p impl.Prog, m impl.Mach, turns ...impl.Turn) impl.Mach {
	t.Helper()
	out, ok := impl.TurnDo(p, m, turns)
	if !ok {
		t.Fatalf("%q: %v are not taken by %v", impl.ProgText(p), turns, m)
	}
	return out
}

// noTurns asks that turns are not taken at all.
func noTurns(t *testing.T, name string, p impl.Prog, m impl.Mach, turns ...impl.Turn) {
	t.Helper()
	if out, ok := impl.TurnDo(p, m, turns); ok || !sameMach(out, impl.Mach{}) {
		t.Errorf("%s, turns %v: %v, %v", name, turns, out, ok)
	}
}

// impossible are turns that no machine takes, whatever its pages.
func impossible() turnList {
	out := turnList{{}, {Num: 1}, {Kind: -1, Num: 1}, {Kind: -3, Num: 2}, {Kind: 4}, {Kind: 4, Num: 1}, {Kind: math.MaxInt, Num: 1}, {Kind: math.MinInt, Num: 1}}
	for _, steps := range []int{math.MinInt, -400, -1, 401, 402, math.MaxInt} {
		out = append(out, turnRun(steps))
	}
	for _, page := range []int{math.MinInt, -4, -1, 4, 5, math.MaxInt} {
		out = append(out, turnFlush(page))
	}
	for _, rooms := range []int{math.MinInt, -1, 0, 5, 14, 60, math.MaxInt} {
		out = append(out, turnMove(rooms))
	}
	return out
}

// modelCan says whether a turn can be, where there are so many pages.
func modelCan(turn impl.Turn, rooms int) bool {
	bounds := map[int][2]int{1: {0, 400}, 2: {0, rooms - 1}, 3: {1, 4}}
	b, kind := bounds[turn.Kind]
	return kind && b[0] <= turn.Num && turn.Num <= b[1]
}

// modelTurn is a turn by the document's words, of an ok machine.
func modelTurn(p impl.Prog, m impl.Mach, turn impl.Turn) impl.Mach {
	out := copyMach(m)
	if !modelCan(turn, len(m.Pages)) {
		return out
	}
	switch turn.Kind {
	case 1:
		for n := 0; n < turn.Num && out.Code == 0; n++ {
			out = modelMachStep(p, out)
		}
	case 2:
		if last := modelFlush(&out, turn.Num); turn.Num == out.Now {
			modelPut(&out, turn.Num, last)
		}
	case 3:
		out = modelMoveIn(modelMoveOut(out), machShape{turn.Num, out.Cells})
	}
	return out
}

func modelTurns(p impl.Prog, m impl.Mach, turns turnList) impl.Mach {
	m = copyMach(m)
	for _, turn := range turns {
		m = modelTurn(p, m, turn)
	}
	return m
}

// modelSteps is how many operations turns are.
func modelSteps(turns turnList) int {
	steps := 0
	for _, turn := range turns {
		if turn.Kind == 1 && modelCan(turn, 1) {
			steps += turn.Num
		}
	}
	return steps
}

// heapAfter is a heap after so many operations, more than are done at once, too.
func heapAfter(t *testing.T, p impl.Prog, h impl.Heap, steps int) impl.Heap {
	t.Helper()
	for ; steps > 400; steps -= 400 {
		h = runHeap(t, p, h, 400)
	}
	return runHeap(t, p, h, steps)
}

// randomTurn mostly can be; it does few operations mostly, so that pages are flushed and moved in between.
func randomTurn(r *rand.Rand) impl.Turn {
	switch r.Intn(9) {
	case 0:
		list := impossible()
		return list[r.Intn(len(list))]
	case 1, 2:
		return turnFlush(r.Intn(4))
	case 3:
		return turnMove(1 + r.Intn(4))
	case 4:
		return turnRun(r.Intn(40))
	case 5:
		return turnRun(1)
	}
	return turnRun(r.Intn(7))
}

// randomTurns are as many as may be, or fewer.
func randomTurns(r *rand.Rand) turnList {
	turns := make(turnList, r.Intn(21))
	for i := range turns {
		turns[i] = randomTurn(r)
	}
	if len(turns) > 0 && r.Intn(12) == 0 {
		turns[r.Intn(len(turns))] = turnRun(400)
	}
	return turns
}

// withoutRun are the turns that do no operation.
func withoutRun(turns turnList) turnList {
	return slices.DeleteFunc(slices.Clone(turns), func(turn impl.Turn) bool { return turn.Kind == 1 })
}

// turnCase is an ok machine, the heap that it is seen as, and turns.
type turnCase struct {
	p     impl.Prog
	m     impl.Mach
	h     impl.Heap
	turns turnList
}

// eachTurns hands over machines that programs begin with, and run to, others, and those at the edges, each with some turns.
func eachTurns(t *testing.T, look func(x turnCase)) {
	t.Helper()
	r := rand.New(rand.NewSource(12))
	for i, x := range machTraces() {
		at := []int{0, len(x.machs) / 2, i % len(x.machs), len(x.machs) - 1}[i%4]
		look(turnCase{x.p, x.machs[at], x.heaps[at], randomTurns(r)})
	}
	for i, x := range oddMachs() {
		if i%2 == 0 {
			look(turnCase{x.p, x.m, x.h, randomTurns(r)})
		}
	}
	p := edgeProg(t)
	for _, x := range edgeHeaps() {
		for _, shape := range edgeShapes() {
			look(turnCase{p, modelMoveIn(x.h, shape), x.h, randomTurns(r)})
		}
	}
}

// turnsMet tells which turns there are, and which of them can be.
func turnsMet(rooms int, turns turnList) map[string]bool {
	met := map[string]bool{
		"no turns": len(turns) == 0, "as many turns as may be": len(turns) == 20,
		"run": false, "flush": false, "move": false, "no run": false, "no flush": false, "no move": false, "no kind": false, "run of 400": false,
		"a page that came by moving": false, "a page that went by moving": false,
	}
	first := rooms
	for _, turn := range turns {
		name, kind := map[int]string{1: "run", 2: "flush", 3: "move"}[turn.Kind]
		can := modelCan(turn, rooms)
		switch {
		case !kind:
			name = "no kind"
		case !can:
			name = "no " + name
		}
		met[name] = true
		met["run of 400"] = met["run of 400"] || turn == turnRun(400)
		if turn.Kind == 2 && can != modelCan(turn, first) {
			met[map[bool]string{true: "a page that came by moving", false: "a page that went by moving"}[can]] = true
		}
		if turn.Kind == 3 && can {
			rooms = turn.Num
		}
	}
	return met
}
