package tests

import (
	"math"
	"math/rand"
	"slices"
	"testing"

	"loop.example/gemel/impl"
)

func TestConstantsOfPages(t *testing.T) {
	if got := []int{impl.PageRooms, impl.PageLeast, impl.PageCells}; !slices.Equal(got, []int{4, 14, 60}) {
		t.Errorf("%v", got)
	}
}

func TestTextsOfMachinesAreRead(t *testing.T) {
	for _, text := range slices.Concat(machTexts, heapTexts) {
		if _, ok := impl.ProgRead(text); !ok {
			t.Errorf("%q is not read", text)
		}
	}
}

// Each step of many programs on pages, and of machines that were not run to, is that of the document's words, written down once more.
func TestEachStepOnPagesByTheWords(t *testing.T) {
	done, codes := map[string]int{}, map[int]int{}
	eachMachAndOdd(func(p impl.Prog, m impl.Mach) {
		want := modelMachStep(p, m)
		got, ok := impl.MachStep(p, m)
		if !ok || !sameMach(got, want) {
			t.Fatalf("%q: of %v\n%v, %v, not\n%v", impl.ProgText(p), m, got, ok, want)
		}
		if m.Code == 0 && want.Code <= 1 {
			f := modelTop(&m)
			done[kindRows[p.Methods[f.Method].Ops[f.Pc].Kind-1].word]++
		}
		codes[got.Code]++
	})
	for _, row := range kindRows {
		if done[row.word] < 100 {
			t.Errorf("only %d times %s", done[row.word], row.word)
		}
	}
	for code := range 4 {
		if codes[code] < 100 {
			t.Errorf("only %d times the code %d", codes[code], code)
		}
	}
}

// What is said, and seen, on pages after so many operations is what the heap says, and shows, after as many.
func TestOnPagesAsOnTheHeap(t *testing.T) {
	var rooms [5]int
	var cells [61]int
	flushed, moved := 0, 0
	for _, x := range machTraces() {
		rooms[x.shape.rooms]++
		cells[x.shape.cells]++
		for steps, m := range x.machs {
			sameAsHeap(t, x.p, m, x.heaps[steps])
			if slices.ContainsFunc(m.Twins, func(x impl.Twin) bool { return x.Page == -1 && !x.Left.Dead }) {
				flushed++
			}
			if steps > 0 && m.Now != x.machs[steps-1].Now && m.Now != -1 {
				moved++
			}
		}
	}
	if rooms[1] < 200 || rooms[2] < 200 || rooms[3] < 200 || rooms[4] < 200 || slices.Min(cells[14:]) < 10 || flushed < 2000 || moved < 2000 {
		t.Errorf("%v, %v, %d flushed, %d moved", rooms, cells, flushed, moved)
	}
}

// Whatever the number of pages and cells, 400 operations say, and show, the same.
func TestAllShapesSayTheSame(t *testing.T) {
	for i, x := range heapTraces() {
		if i%60 != 0 && i < len(heapTraces())-20 {
			continue
		}
		end := ranHeap(t, x.p, 400)
		for rooms := 1; rooms <= 4; rooms++ {
			for cells := 14; cells <= 60; cells++ {
				sameAsHeap(t, x.p, ranMach(t, x.p, rooms, cells, 400), end)
			}
		}
	}
}

// Machines that were not run to go on as their heaps do.
func TestOddMachinesGoOnAsTheirHeaps(t *testing.T) {
	for i, x := range oddMachs() {
		if !impl.HeapOk(x.p, x.h) || !impl.MachOk(x.p, x.m) {
			t.Fatalf("%q: %v of %v", impl.ProgText(x.p), x.m, x.h)
		}
		for _, steps := range []int{0, 1, 2, 3 + i%30, 400} {
			sameAsHeap(t, x.p, runMach(t, x.p, x.m, steps), runHeap(t, x.p, x.h, steps))
		}
	}
}

// Pages that are flushed between operations change nothing of what is said, and seen.
func TestFlushedBetweenOperations(t *testing.T) {
	r := rand.New(rand.NewSource(8))
	for i, x := range machTraces() {
		m := x.machs[0]
		for steps := 1; steps < len(x.heaps); steps++ {
			for range r.Intn(1 + i%3) {
				m = flushMach(t, x.p, m, r.Intn(x.shape.rooms))
			}
			m = runMach(t, x.p, m, 1)
			sameAsHeap(t, x.p, m, x.heaps[steps])
			if !impl.MachOk(x.p, m) {
				t.Fatalf("%q: %v is not ok", impl.ProgText(x.p), m)
			}
		}
	}
}

// P48. On pages a program begins with one frame, seen as the first call.
func TestMachineBeginsWithOneFrame(t *testing.T) {
	for i, p := range manyProgs() {
		for rooms, order := range [][]int{1: {0}, 2: {1, 0}, 3: {1, 2, 0}, 4: {1, 2, 3, 0}} {
			if rooms == 0 {
				continue
			}
			for _, cells := range []int{14, 15, 16 + i%43, 59, 60} {
				want := impl.Mach{Cells: cells, Pages: slices.Repeat([]impl.Page{{Base: -1}}, rooms), Order: order, Born: 1}
				want.Pages[0].Frames = []impl.Frame{{Twin: -1, Temps: make([]impl.Val, p.Methods[0].Temps)}}
				m, ok := impl.MachNew(p, rooms, cells)
				if !ok || !sameMach(m, want) || !impl.MachOk(p, m) {
					t.Fatalf("%q: %v, %v, not %v", impl.ProgText(p), m, ok, want)
				}
				sameAsHeap(t, p, m, newHeap(t, p))
				if impl.MachDeep(m) != 1 || impl.MachFrames(m) != 1 || impl.MachTwins(m) != 0 {
					t.Fatalf("%q: %v", impl.ProgText(p), m)
				}
			}
		}
	}
}

// So many pages, so many cells, and an ok program; else there is no machine.
func TestBoundsOfPages(t *testing.T) {
	p := readProg(t, "method 0 0", "num 1", "ret")
	for _, rooms := range []int{math.MinInt, -1, 0, 1, 4, 5, math.MaxInt} {
		for _, cells := range []int{math.MinInt, -14, 0, 13, 14, 60, 61, math.MaxInt} {
			m, ok := impl.MachNew(p, rooms, cells)
			want := (rooms == 1 || rooms == 4) && (cells == 14 || cells == 60)
			if ok != want || !ok && !sameMach(m, impl.Mach{}) {
				t.Errorf("%d pages of %d cells: %v, %v", rooms, cells, m, ok)
			}
		}
	}
	for i, q := range []impl.Prog{
		{},
		{Methods: make([]impl.Method, 5)},
		{Methods: []impl.Method{{Args: 1, Temps: 1}}},
		{Methods: []impl.Method{{Temps: 5}}},
		{Methods: []impl.Method{{}, {Ops: []impl.Op{{Kind: 19}}}}},
	} {
		if m, ok := impl.MachNew(q, 2, 30); ok || !sameMach(m, impl.Mach{}) {
			t.Errorf("program %d: %v, %v", i, m, ok)
		}
	}
}

// P49. Operations are done one behind the other, cut anywhere.
func TestCutAnywhereOnPages(t *testing.T) {
	for i, x := range machTraces() {
		last := len(x.machs) - 1
		whole := runMach(t, x.p, x.machs[0], last)
		for _, cut := range []int{0, 1, last / 2, (i * 7) % (last + 1), last} {
			cut = min(cut, last)
			parts := runMach(t, x.p, runMach(t, x.p, x.machs[0], cut), last-cut)
			if !sameMach(whole, parts) || !sameMach(whole, x.machs[last]) {
				t.Fatalf("%q, %d cut at %d: %v, not %v", impl.ProgText(x.p), last, cut, parts, whole)
			}
		}
	}
	for i, x := range oddMachs() {
		steps, cut := i%50, i%7
		whole := runMach(t, x.p, x.m, steps+cut)
		if parts := runMach(t, x.p, runMach(t, x.p, x.m, cut), steps); !sameMach(whole, parts) {
			t.Fatalf("%q, cut at %d: %v, not %v", impl.ProgText(x.p), cut, parts, whole)
		}
	}
}

// So many operations are done as are asked for: 0, 399 and 400 may be; one fewer or more may not.
func TestBoundsOfStepsOnPages(t *testing.T) {
	p := readProg(t, "method 0 1", "num 0", "set 0", "temp 0", "num 1", "add", "set 0", "jump 2")
	m := newMach(t, p, 2, 20)
	for _, steps := range []int{math.MinInt, -400, -1, 401, 402, math.MaxInt} {
		if out, ok := impl.MachRun(p, m, steps); ok || !sameMach(out, impl.Mach{}) {
			t.Errorf("%d: %v, %v", steps, out, ok)
		}
	}
	for _, steps := range []int{0, 1, 2, 7, 12, 399, 400} {
		want := copyMach(m)
		for range steps {
			want = modelMachStep(p, want)
		}
		if out := runMach(t, p, m, steps); !sameMach(out, want) {
			t.Errorf("%d: %v, not %v", steps, out, want)
		}
	}
	for steps, want := range map[int][]impl.Val{398: {number(79)}, 399: {number(79), number(1)}, 400: {number(80)}} {
		if f := runMach(t, p, m, steps).Pages[0].Frames[0]; f.Temps[0] != number(79) || !slices.Equal(f.Stack, want) {
			t.Errorf("after %d: %v", steps, f)
		}
	}
}

// P50. MachStep is MachRun of one, and ok; nothing changes, if it does not run.
func TestMachStepIsMachRunOfOne(t *testing.T) {
	still := 0
	eachMachAndOdd(func(p impl.Prog, m impl.Mach) {
		one, ok := impl.MachStep(p, m)
		if !ok || !impl.MachOk(p, one) || !sameMach(one, runMach(t, p, m, 1)) {
			t.Fatalf("%q: of %v\n%v, %v", impl.ProgText(p), m, one, ok)
		}
		if m.Code == 0 {
			return
		}
		still++
		if !sameMach(one, m) || !sameMach(runMach(t, p, m, 400), m) {
			t.Fatalf("%q: %v changed to %v", impl.ProgText(p), m, one)
		}
	})
	if still < 1000 {
		t.Errorf("only %d do not run", still)
	}
	// Such ones stay though nothing hinders the operation that is next.
	p := readProg(t, "method 0 0", "num 1", "ret")
	for _, code := range []int{2, 3} {
		m := newMach(t, p, 2, 20)
		m.Code = code
		if out := runMach(t, p, m, 2); !sameMach(out, m) {
			t.Errorf("%v", out)
		}
	}
}

// twinSeen is what of a twin stays: its method, and that it is Dead.
func twinSeen(m impl.Mach, number int) (int, bool) {
	method, _, _, dead := modelLooked(&m, number)
	return method, dead
}

// P51. MachRun is ok; what was said, born, and looked at stays.
func TestWhatWasLookedAtStays(t *testing.T) {
	twins, dead := 0, 0
	for _, x := range machTraces() {
		last := x.machs[len(x.machs)-1]
		for _, m := range x.machs {
			if !impl.MachOk(x.p, m) {
				t.Fatalf("%q: %v is not ok", impl.ProgText(x.p), m)
			}
			stays(t, x.p, m, last)
		}
		for number := range last.Twins {
			twins++
			if _, is := twinSeen(last, number); is {
				dead++
			}
		}
		stays(t, x.p, last, runMach(t, x.p, last, 400))
	}
	for i, x := range oddMachs() {
		stays(t, x.p, x.m, runMach(t, x.p, x.m, i%40))
	}
	if twins < 1000 || dead < 500 {
		t.Errorf("only %d twins, %d Dead", twins, dead)
	}
}

func stays(t *testing.T, p impl.Prog, before, after impl.Mach) {
	t.Helper()
	if !impl.MachOk(p, after) || len(before.Said) > len(after.Said) || !slices.Equal(before.Said, after.Said[:len(before.Said)]) {
		t.Fatalf("%q: %v, then %v", impl.ProgText(p), before, after)
	}
	if before.Born > after.Born || len(before.Twins) > len(after.Twins) || len(after.Twins) > after.Born {
		t.Fatalf("%q: %v, then %v", impl.ProgText(p), before, after)
	}
	for number := range before.Twins {
		method, was := twinSeen(before, number)
		if next, is := twinSeen(after, number); method != next || was && (!is || before.Twins[number].Left.Pc != after.Twins[number].Left.Pc) {
			t.Fatalf("%q: twin %d of %v, then %v", impl.ProgText(p), number, before, after)
		}
	}
}

// P52. MachDeep is all frames, and twins on no page that are not Dead.
func TestMachDeepIsAllThatWait(t *testing.T) {
	var seen [31]int
	eachMachAndOdd(func(p impl.Prog, m impl.Mach) {
		wait := 0
		for _, page := range m.Pages {
			wait += len(page.Frames)
		}
		for _, x := range m.Twins {
			if x.Page == -1 && !x.Left.Dead {
				wait++
			}
		}
		if got := impl.MachDeep(m); got != wait {
			t.Fatalf("%q: %d, not %d, of %v", impl.ProgText(p), got, wait, m)
		}
		seen[wait]++
	})
	for _, deep := range []int{0, 1, 2, 3, 4, 8, 29, 30} {
		if seen[deep] == 0 {
			t.Errorf("none is %d deep", deep)
		}
	}
}

// P53. No page takes more than its cells; there are as many as ahead.
func TestNoPageTakesMoreThanItsCells(t *testing.T) {
	full := 0
	check := func(p impl.Prog, before, after impl.Mach) {
		if after.Cells != before.Cells || len(after.Pages) != len(before.Pages) {
			t.Fatalf("%q: %v, then %v", impl.ProgText(p), before, after)
		}
		for _, page := range after.Pages {
			used := modelUsed(page)
			if used > after.Cells {
				t.Fatalf("%q: %d cells of %v", impl.ProgText(p), used, after)
			}
			if used == after.Cells {
				full++
			}
		}
	}
	for _, x := range machTraces() {
		for _, m := range x.machs {
			check(x.p, x.machs[0], m)
			if m.Cells != x.shape.cells || len(m.Pages) != x.shape.rooms {
				t.Fatalf("%v, not %v", m, x.shape)
			}
		}
	}
	for i, x := range oddMachs() {
		check(x.p, x.m, runMach(t, x.p, x.m, i%20))
		check(x.p, x.m, flushMach(t, x.p, x.m, i%len(x.m.Pages)))
	}
	if full < 500 {
		t.Errorf("only %d are full", full)
	}
}

// P58. MachFrames are all frames. P59. MachTwins are all frames that have a twin.
func TestFramesAndTwins(t *testing.T) {
	most := 0
	eachMachAndOdd(func(p impl.Prog, m impl.Mach) {
		frames, twins := 0, 0
		for _, page := range m.Pages {
			for _, f := range page.Frames {
				frames++
				if f.Twin != -1 {
					twins++
				}
			}
		}
		if impl.MachFrames(m) != frames || impl.MachTwins(m) != twins {
			t.Fatalf("%q: %d and %d of %v", impl.ProgText(p), impl.MachFrames(m), impl.MachTwins(m), m)
		}
		most = max(most, frames)
	})
	if most != 24 {
		t.Errorf("at most %d frames", most)
	}
	// Any machine has these: a page that is none has no twins.
	if impl.MachFrames(impl.Mach{}) != 0 || impl.MachTwins(impl.Mach{}) != 0 {
		t.Error("of nothing")
	}
	wild := impl.Mach{Pages: []impl.Page{{Frames: make([]impl.Frame, 40)}, {}, {Base: -7, Frames: make([]impl.Frame, 2)}}, Now: 9}
	for _, page := range []int{-1, 0, 2, -2, 3, 1, math.MinInt, math.MaxInt} {
		wild.Twins = append(wild.Twins, impl.Twin{Page: page, At: 50})
	}
	if impl.MachFrames(wild) != 42 || impl.MachTwins(wild) != 3 {
		t.Errorf("%d, %d", impl.MachFrames(wild), impl.MachTwins(wild))
	}
}

// P60. No more is born, or said, than operations are done; no more wait than are born.
func TestNoMoreThanOperationsOnPages(t *testing.T) {
	eachMach(func(p impl.Prog, m impl.Mach, steps int) {
		if len(m.Said)+m.Born-1 > steps || impl.MachDeep(m) > m.Born || len(m.Twins) > m.Born {
			t.Fatalf("%q after %d: %v", impl.ProgText(p), steps, m)
		}
	})
	p := readProg(t, "method 0 0", "num 3", "say", "jump 0")
	for _, steps := range []int{0, 1, 2, 3, 4, 5, 399, 400} {
		if m := ranMach(t, p, 1, 14, steps); len(m.Said) != (steps+1)/3 || m.Born != 1 || impl.MachDeep(m) != 1 {
			t.Errorf("after %d: %v", steps, m)
		}
	}
}

// HeapBorn calls are born, and none more, however few pages there are.
func TestHeapBornIsMetExactlyOnPages(t *testing.T) {
	deep := readProg(t, "method 0 0", "call 0", "ret")
	flat := readProg(t, "method 0 0", "call 1", "drop", "jump 0", "method 0 0", "num 1", "ret")
	for _, shape := range []machShape{{1, 14}, {1, 60}, {2, 30}, {4, 60}} {
		for steps, want := range map[int]int{28: 0, 29: 0, 30: 3, 31: 3, 400: 3} {
			m := ranMach(t, deep, shape.rooms, shape.cells, steps)
			if m.Code != want || m.Born != min(steps+1, 30) || impl.MachDeep(m) != m.Born || !impl.MachOk(deep, m) {
				t.Errorf("after %d: %v", steps, m)
			}
			if f := modelTop(&m); want == 3 && (f.Pc != 1 || len(f.Stack) != 0) {
				t.Errorf("after %d: %v", steps, f)
			}
		}
		for steps, want := range map[int]int{144: 0, 145: 0, 146: 3, 400: 3} {
			m := ranMach(t, flat, shape.rooms, shape.cells, steps)
			if m.Code != want || m.Born != 30 || impl.MachDeep(m) != 1 {
				t.Errorf("after %d: %v", steps, m)
			}
		}
	}
	// One that is full makes no twin, and flushes no page.
	full := ranMach(t, deep, 1, 14, 29)
	if next := runMach(t, deep, full, 1); next.Code != 3 || len(next.Twins) != 29 || len(full.Twins) != 29 || next.Pages[0].Frames[0].Twin != -1 {
		t.Errorf("%v, then %v", full, next)
	}
}

// P61. Without OpHere no call is said on pages, and only those that wait are seen.
func TestWithoutHereOnPages(t *testing.T) {
	seen, twins := 0, 0
	eachMach(func(p impl.Prog, m impl.Mach, _ int) {
		if hasHere(p) {
			return
		}
		seen++
		twins = max(twins, len(m.Twins))
		if slices.ContainsFunc(m.Said, func(v impl.Val) bool { return v.Kind == impl.ValCall }) {
			t.Fatalf("%q: a call is said: %v", impl.ProgText(p), m)
		}
		view := impl.MachView(m)
		if len(view) != impl.MachDeep(m) || slices.ContainsFunc(view, func(c impl.Call) bool { return c.Dead }) {
			t.Fatalf("%q: %v", impl.ProgText(p), view)
		}
	})
	if seen < 1000 || twins < 5 {
		t.Errorf("only %d, with %d twins", seen, twins)
	}
}

// P62. Order is all pages, the one that runs last.
func TestOrderIsAllPages(t *testing.T) {
	ended := 0
	eachMachAndOdd(func(p impl.Prog, m impl.Mach) {
		next := runMach(t, p, m, 1)
		for _, x := range []impl.Mach{m, next, flushMach(t, p, m, 0)} {
			sorted := slices.Sorted(slices.Values(x.Order))
			if len(sorted) != len(x.Pages) || sorted[0] != 0 || len(slices.Compact(sorted)) != len(x.Pages) || slices.Max(x.Order) != len(x.Pages)-1 {
				t.Fatalf("%q: %v", impl.ProgText(p), x)
			}
			if x.Now != -1 && x.Order[len(x.Order)-1] != x.Now {
				t.Fatalf("%q: %v", impl.ProgText(p), x)
			}
			if x.Now == -1 {
				ended++
			}
		}
	})
	if ended < 200 {
		t.Errorf("only %d ended", ended)
	}
}

// P63. Pages without frames have no Base; there are no more with than calls that wait.
func TestPagesWithoutFrames(t *testing.T) {
	empty := 0
	check := func(p impl.Prog, m impl.Mach) {
		with := 0
		for _, page := range m.Pages {
			if len(page.Frames) > 0 {
				with++
				continue
			}
			empty++
			if page.Base != -1 {
				t.Fatalf("%q: %v", impl.ProgText(p), m)
			}
		}
		if with > impl.MachDeep(m) {
			t.Fatalf("%q: %v", impl.ProgText(p), m)
		}
	}
	eachMachAndOdd(check)
	for i, x := range oddMachs() {
		check(x.p, runMach(t, x.p, x.m, i%30))
		check(x.p, flushMach(t, x.p, x.m, i%len(x.m.Pages)))
	}
	if empty < 1000 {
		t.Errorf("only %d", empty)
	}
}
