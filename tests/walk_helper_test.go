package tests

import (
	"math/rand"
	"slices"
	"testing"

	"loop.example/gemel/impl"
)

func heapOver(t *testing.T, p impl.Prog, h impl.Heap, most int) impl.Heap {
	t.Helper()
	out, ok := impl.HeapOver(p, h, most)
	if !ok {
		t.Fatalf("%q: not over %v by %d", impl.ProgText(p), h, most)
	}
	return out
}

func heapOut(t *testing.T, p impl.Prog, h impl.Heap, most int) impl.Heap {
	t.Helper()
	out, ok := impl.HeapOut(p, h, most)
	if !ok {
		t.Fatalf("%q: not out of %v by %d", impl.ProgText(p), h, most)
	}
	return out
}

func machOver(t *testing.T, p impl.Prog, m impl.Mach, most int) impl.Mach {
	t.Helper()
	out, ok := impl.MachOver(p, m, most)
	if !ok {
		t.Fatalf("%q: not over %v by %d", impl.ProgText(p), m, most)
	}
	return out
}

func machOut(t *testing.T, p impl.Prog, m impl.Mach, most int) impl.Mach {
	t.Helper()
	out, ok := impl.MachOut(p, m, most)
	if !ok {
		t.Fatalf("%q: not out of %v by %d", impl.ProgText(p), m, most)
	}
	return out
}

// goer is what goes on, for the document's words of going on: a step of it, how it stands, and how many calls wait.
type goer[T any] struct {
	step func(p impl.Prog, x T) T
	code func(x T) int
	deep func(x T) int
}

func heapGoer() goer[impl.Heap] {
	return goer[impl.Heap]{modelStep, func(h impl.Heap) int { return h.Code }, func(h impl.Heap) int { return len(waiting(h)) }}
}

func machGoer() goer[impl.Mach] {
	return goer[impl.Mach]{modelMachStep, func(m impl.Mach) int { return m.Code }, modelMachDeep}
}

// modelOver is the document's words of going over an operation, and how many are done by that.
func modelOver[T any](g goer[T], p impl.Prog, x T, most int) (T, int) {
	waited := g.deep(x)
	x = g.step(p, x)
	steps := 1
	for steps < most && g.code(x) == 0 && g.deep(x) > waited {
		x = g.step(p, x)
		steps++
	}
	return x, steps
}

// modelOut is the document's words of going out of a call, and how many operations are done by that.
func modelOut[T any](g goer[T], p impl.Prog, x T, most int) (T, int) {
	waited, steps := g.deep(x), 0
	for steps < most && g.code(x) == 0 && g.deep(x) >= waited {
		x = g.step(p, x)
		steps++
	}
	return x, steps
}

// modelMethods are the methods of an ok machine's calls that wait, found by where they are.
func modelMethods(m impl.Mach) []int {
	var out []int
	if m.Now == -1 {
		return out
	}
	for at := []spot{{m.Now, len(m.Pages[m.Now].Frames) - 1}}; len(at) == 1; {
		c, by, _ := modelCall(m, at[0])
		out = append(out, c.Method)
		at = by
	}
	return out
}

// walkCase is an ok machine, the heap that it is seen as, and how many operations there are at most.
type walkCase struct {
	p    impl.Prog
	m    impl.Mach
	h    impl.Heap
	most int
}

// mostAt is another number of operations for each of many, the least, the most, and mostly few.
func mostAt(r *rand.Rand) int {
	switch r.Intn(8) {
	case 0:
		return 1
	case 1:
		return 400
	case 2:
		return 1 + r.Intn(400)
	}
	return 1 + r.Intn(30)
}

// eachWalk hands over machines that programs begin with, and run to, others, and those at the edges, ended ones too.
func eachWalk(t *testing.T, look func(x walkCase)) {
	t.Helper()
	r := rand.New(rand.NewSource(15))
	for i, x := range machTraces() {
		for _, at := range []int{0, i % len(x.machs), r.Intn(len(x.machs)), len(x.machs) - 1} {
			look(walkCase{x.p, x.machs[at], x.heaps[at], mostAt(r)})
		}
	}
	for _, x := range oddMachs() {
		look(walkCase{x.p, x.m, x.h, mostAt(r)})
	}
	p := edgeProg(t)
	for _, x := range edgeHeaps() {
		for _, shape := range edgeShapes() {
			look(walkCase{p, modelMoveIn(x.h, shape), x.h, mostAt(r)})
		}
	}
	for i, x := range oddHeaps() {
		if i%16 == 0 {
			h := copyHeap(x.heaps[0])
			endAll(&h)
			look(walkCase{x.p, modelMoveIn(h, shapeAt(i)), h, mostAt(r)})
		}
	}
	eachWalkProg(t, func(_ walkProg, p impl.Prog, heaps []impl.Heap) {
		for steps, h := range heaps {
			for i, shape := range edgeShapes() {
				look(walkCase{p, ranMach(t, p, shape.rooms, shape.cells, steps), h, 10 + i})
			}
		}
	})
}

// eachHeapWalk hands over heaps that programs run to, others, and such of which none runs, each with a number of operations.
func eachHeapWalk(t *testing.T, look func(p impl.Prog, h impl.Heap, most int)) {
	t.Helper()
	r := rand.New(rand.NewSource(16))
	eachHeapToMove(func(p impl.Prog, h impl.Heap) { look(p, h, mostAt(r)) })
	eachWalkProg(t, func(_ walkProg, p impl.Prog, heaps []impl.Heap) {
		for _, h := range heaps {
			for most := 1; most <= 12; most++ {
				look(p, h, most)
			}
		}
	})
}

// walkMet tells what is met from where one goes on to where one comes, by so many operations of most.
func walkMet(from, to impl.Heap, steps, most int) map[string]bool {
	had, has := len(waiting(from)), len(waiting(to))
	return map[string]bool{
		"it did not run":           from.Code != 0,
		"it ends":                  from.Code == 0 && to.Code == 1,
		"it is stuck":              from.Code == 0 && to.Code == 2,
		"it is full":               from.Code == 0 && to.Code == 3,
		"as far as may be":         steps == most && to.Code == 0 && has > had,
		"one fewer":                has == had-1,
		"several fewer":            has < had-1 && to.Code == 0,
		"as many":                  has == had && to.Code == 0,
		"many operations":          steps > 9,
		"stuck, and more wait":     from.Code == 0 && to.Code == 2 && has > had,
		"as many, behind calls":    has == had && to.Code == 0 && to.Born > from.Born,
		"fewer, behind some calls": has < had && to.Born > from.Born,
	}
}

// walkProg is a program, how many operations are next to be done when one has gone over, and out, from each operation on.
type walkProg struct {
	name  string
	lines []string
	over  []int
	out   []int
}

// walkProgs are programs that end, are stuck, or are full; where they come to is told for each number of operations, the last one too.
func walkProgs() []walkProg {
	again := walkProg{name: "itself again and again", lines: []string{"method 0 0", "call 0", "ret"}}
	for range 31 {
		again.over, again.out = append(again.over, 30), append(again.out, 30)
	}
	return []walkProg{
		again,
		{"calls within calls", []string{
			"method 0 0", "call 1", "say", "num 5", "ret",
			"method 0 0", "call 2", "drop", "call 2", "ret",
			"method 0 0", "call 3", "ret",
			"method 0 0", "num 7", "ret"},
			[]int{13, 6, 5, 4, 5, 6, 7, 12, 11, 10, 11, 12, 13, 14, 15, 16, 16},
			[]int{16, 13, 6, 5, 5, 6, 13, 13, 12, 11, 11, 12, 13, 16, 16, 16, 16}},
		{"back out of two calls", []string{
			"method 0 1", "here", "call 1", "say", "num 3", "ret",
			"method 1 1", "temp 0", "call 2", "ret",
			"method 1 1", "temp 0", "num 9", "back"},
			[]int{1, 7, 3, 7, 5, 6, 7, 8, 9, 10, 10},
			[]int{10, 10, 7, 7, 7, 7, 7, 10, 10, 10, 10}},
		{"back out of three calls", []string{
			"method 0 1", "here", "call 1", "say", "num 3", "ret",
			"method 1 1", "temp 0", "call 2", "ret",
			"method 1 1", "temp 0", "call 3", "ret",
			"method 1 1", "temp 0", "num 9", "back"},
			[]int{1, 9, 3, 9, 5, 9, 7, 8, 9, 10, 11, 12, 12},
			[]int{12, 12, 9, 9, 9, 9, 9, 9, 9, 12, 12, 12, 12}},
		{"back to one within", []string{
			"method 0 0", "call 1", "ret",
			"method 0 0", "here", "call 2", "ret",
			"method 1 1", "temp 0", "num 4", "back"},
			[]int{7, 2, 6, 4, 5, 6, 7, 8, 8},
			[]int{8, 7, 7, 6, 6, 6, 7, 8, 8}},
		{"back to itself", []string{"method 0 0", "call 1", "ret", "method 0 0", "here", "num 6", "back", "ret"},
			[]int{5, 2, 3, 4, 5, 6, 6},
			[]int{6, 5, 5, 5, 5, 6, 6}},
		{"back to what has returned, within", []string{
			"method 0 0", "call 1", "ret",
			"method 0 0", "call 2", "num 1", "back", "ret",
			"method 0 0", "here", "ret"},
			[]int{6, 4, 3, 4, 5, 6, 6},
			[]int{6, 6, 4, 4, 6, 6, 6}},
		{"no call at all", []string{"method 0 0", "num 1", "ret"}, []int{1, 2, 2}, []int{2, 2, 2}},
		{"none at Pc", []string{"method 0 0", "num 1"}, []int{1, 2, 2}, []int{2, 2, 2}},
		{"no operation", []string{"method 0 0"}, []int{1, 1}, []int{1, 1}},
		{"none at Pc, within", []string{"method 0 0", "call 1", "ret", "method 0 0", "num 1", "drop"}, []int{4, 2, 3, 4, 4}, []int{4, 4, 4, 4, 4}},
		{"a call of what has no operation", []string{"method 0 0", "call 1", "ret", "method 0 0"}, []int{2, 2, 2}, []int{2, 2, 2}},
	}
}

// mosts are numbers of operations that may be, the least and the most, and all of these few.
func mosts() []int {
	out := []int{399, 400}
	for most := 1; most <= 35; most++ {
		out = append(out, most)
	}
	return out
}

// eachWalkProg hands over each of these programs with its heaps, operation by operation.
func eachWalkProg(t *testing.T, look func(x walkProg, p impl.Prog, heaps []impl.Heap)) {
	t.Helper()
	for _, x := range walkProgs() {
		p := readProg(t, x.lines...)
		heaps := heapTrace(p).heaps
		if len(heaps) != len(x.over) || len(heaps) != len(x.out) || heaps[len(heaps)-1].Code == 0 {
			t.Fatalf("%s: %d heaps, not %d, %d", x.name, len(heaps), len(x.over), len(x.out))
		}
		look(x, p, heaps)
	}
}

// refused asks that neither of the four goes on.
func refused(t *testing.T, name string, p impl.Prog, h impl.Heap, m impl.Mach, most int) {
	t.Helper()
	refusedHeap(t, name, p, h, most)
	refusedMach(t, name, p, m, most)
}

func refusedHeap(t *testing.T, name string, p impl.Prog, h impl.Heap, most int) {
	t.Helper()
	for word, on := range map[string]func(p impl.Prog, h impl.Heap, most int) (impl.Heap, bool){"over": impl.HeapOver, "out": impl.HeapOut} {
		if out, ok := on(p, h, most); ok || !sameHeap(out, impl.Heap{}) {
			t.Errorf("%s, a heap %s by %d: %v, %v", name, word, most, out, ok)
		}
	}
}

func refusedMach(t *testing.T, name string, p impl.Prog, m impl.Mach, most int) {
	t.Helper()
	for word, on := range map[string]func(p impl.Prog, m impl.Mach, most int) (impl.Mach, bool){"over": impl.MachOver, "out": impl.MachOut} {
		if out, ok := on(p, m, most); ok || !sameMach(out, impl.Mach{}) {
			t.Errorf("%s, a machine %s by %d: %v, %v", name, word, most, out, ok)
		}
	}
}

// noWalkOfHeap asks that of a heap that is not ok nothing is told, and that it does not go on.
func noWalkOfHeap(t *testing.T, name string, p impl.Prog, h impl.Heap) {
	t.Helper()
	if op, ok := impl.HeapNext(p, h); ok || op != (impl.Op{}) {
		t.Errorf("%s, next: %v, %v", name, op, ok)
	}
	if methods := impl.HeapMethods(p, h); len(methods) > 0 {
		t.Errorf("%s, methods: %v", name, methods)
	}
	for _, most := range []int{-1, 0, 1, 400, 401} {
		refusedHeap(t, name, p, h, most)
	}
}

// noWalkOfMach asks the same of a machine.
func noWalkOfMach(t *testing.T, name string, p impl.Prog, m impl.Mach) {
	t.Helper()
	if op, ok := impl.MachNext(p, m); ok || op != (impl.Op{}) {
		t.Errorf("%s, next: %v, %v", name, op, ok)
	}
	if methods := impl.MachMethods(p, m); len(methods) > 0 {
		t.Errorf("%s, methods: %v", name, methods)
	}
	for _, most := range []int{-1, 0, 1, 400, 401} {
		refusedMach(t, name, p, m, most)
	}
}

// sameNumber is which number of operations one heap comes to another by, from 0 on; -1, if by none of so many.
func sameNumber(t *testing.T, p impl.Prog, from, to impl.Heap, most int) int {
	t.Helper()
	for steps := 0; steps <= most; steps++ {
		ran := runHeap(t, p, from, steps)
		if sameHeap(ran, to) {
			return steps
		}
		if ran.Code != 0 {
			break
		}
	}
	return -1
}

// methodsOfHeap are those of the calls that wait, by the document's words.
func methodsOfHeap(h impl.Heap) []int {
	var out []int
	for _, place := range waiting(h) {
		out = append(out, h.Calls[place].Method)
	}
	return slices.Clip(out)
}
