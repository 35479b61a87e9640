package tests

import (
	"math"
	"math/rand"
	"slices"
	"testing"

	"loop.example/gemel/impl"
)

func TestConstantsOfTurns(t *testing.T) {
	t.Parallel()
	if got := []int{impl.TurnRun, impl.TurnFlush, impl.TurnMove, impl.TurnMax}; !slices.Equal(got, []int{1, 2, 3, 20}) {
		t.Errorf("%v", got)
	}
}

// What turns come to is, in all that a machine is, what the document's words, written down once more, come to.
func TestTurnsByTheWords(t *testing.T) {
	t.Parallel()
	met := tally{}
	eachTurns(t, func(x turnCase) {
		got, want := turnsDone(t, x.p, x.m, x.turns...), modelTurns(x.p, x.m, x.turns)
		if !sameMach(got, want) || !impl.MachOk(x.p, got) {
			t.Fatalf("%q: of %v by %v\n%v, not\n%v", impl.ProgText(x.p), x.m, x.turns, got, want)
		}
		met.add(turnsMet(len(x.m.Pages), x.turns), standing(x.m.Code, x.m.Born), layout(x.m))
	})
	met.ask(t, 50)
}

// P91. Turns are taken one behind the other, cut anywhere.
func TestTurnsCutAnywhere(t *testing.T) {
	t.Parallel()
	i := 0
	eachTurns(t, func(x turnCase) {
		i++
		cuts := []int{0, i % (len(x.turns) + 1), len(x.turns)}
		if i%5 == 0 {
			for cut := range x.turns {
				cuts = append(cuts, cut)
			}
		}
		whole := turnsDone(t, x.p, x.m, x.turns...)
		for _, cut := range cuts {
			parts := turnsDone(t, x.p, turnsDone(t, x.p, x.m, x.turns[:cut]...), x.turns[cut:]...)
			if !sameMach(whole, parts) {
				t.Fatalf("%q: of %v by %v\ncut at %d %v, not\n%v", impl.ProgText(x.p), x.m, x.turns, cut, parts, whole)
			}
		}
	})
}

// P91. Two parts of TurnMax turns each may be taken one behind the other, though both at once may not.
func TestTwiceAsManyTurnsInTwoParts(t *testing.T) {
	t.Parallel()
	p := countingProg(t)
	m := newMach(t, p, 2, 20)
	turns := slices.Repeat(turnList{turnRun(1)}, 20)
	noTurns(t, "both", p, m, append(slices.Clone(turns), turns...)...)
	if out := turnsDone(t, p, turnsDone(t, p, m, turns...), turns...); !sameMach(out, runMach(t, p, m, 40)) {
		t.Errorf("%v", out)
	}
}

// countingProg counts, and does not end: each of its operations is to be told from the one before.
func countingProg(t *testing.T) impl.Prog {
	t.Helper()
	return readProg(t, "method 0 1", "num 0", "set 0", "temp 0", "num 1", "add", "set 0", "jump 2")
}

// P91. As many turns as TurnMax, and none more, may be taken, whether each of them can be or not.
func TestBoundsOfTurns(t *testing.T) {
	t.Parallel()
	p := countingProg(t)
	for _, shape := range edgeShapes() {
		m := newMach(t, p, shape.rooms, shape.cells)
		for _, size := range []int{0, 1, 2, 19, 20} {
			for _, one := range append(impossible(), turnRun(1), turnFlush(0), turnMove(2)) {
				turns := slices.Repeat(turnList{one}, size)
				if out := turnsDone(t, p, m, turns...); !sameMach(out, modelTurns(p, m, turns)) {
					t.Errorf("%d times %v: %v", size, one, out)
				}
			}
		}
		if out := turnsDone(t, p, m, slices.Repeat(turnList{turnRun(1)}, 20)...); !sameMach(out, runMach(t, p, m, 20)) {
			t.Errorf("twenty: %v", out)
		}
		for _, size := range []int{21, 22, 40, 400} {
			for _, one := range append(impossible(), turnRun(0), turnRun(1), turnFlush(0), turnMove(2)) {
				noTurns(t, "too many", p, m, slices.Repeat(turnList{one}, size)...)
			}
		}
	}
}

// P84. TurnRun of 0 to 400 operations, of none fewer nor more, and of 8000 by all turns together.
func TestBoundsOfTurnRun(t *testing.T) {
	t.Parallel()
	p := countingProg(t)
	m := newMach(t, p, 2, 20)
	for _, steps := range []int{0, 1, 2, 7, 399, 400} {
		if out := turnsDone(t, p, m, turnRun(steps)); !sameMach(out, runMach(t, p, m, steps)) || impl.TurnSteps(turnList{turnRun(steps)}) != steps {
			t.Errorf("%d: %v", steps, out)
		}
	}
	for _, steps := range []int{math.MinInt, -401, -400, -1, 401, 402, 800, math.MaxInt} {
		if out := turnsDone(t, p, m, turnRun(steps)); !sameMach(out, m) || impl.TurnSteps(turnList{turnRun(steps)}) != 0 {
			t.Errorf("%d: %v", steps, out)
		}
		if out := turnsDone(t, p, m, turnRun(3), turnRun(steps), turnRun(4)); !sameMach(out, runMach(t, p, m, 7)) {
			t.Errorf("%d: %v", steps, out)
		}
	}
	turns := slices.Repeat(turnList{turnRun(400)}, 20)
	if out := turnsDone(t, p, m, turns...); impl.TurnSteps(turns) != 8000 || !sameMach(out, modelTurns(p, m, turns)) {
		t.Errorf("%v", out)
	}
	// 2 operations ahead, then 5 for each number: 7998 are 1599 numbers, and 3 operations more.
	if f := turnsDone(t, p, m, turns...).Pages[0].Frames[0]; f.Pc != 5 || f.Temps[0] != number(599) || !slices.Equal(f.Stack, vals(number(600))) {
		t.Errorf("%v", f)
	}
}

// deepMach has eight calls: two on each of its pages, and all others on none.
func deepMach(t *testing.T, rooms int) (impl.Prog, impl.Mach) {
	t.Helper()
	p := readProg(t, "method 0 0", "call 0", "ret")
	return p, ranMach(t, p, rooms, 21, 7)
}

// P95. TurnFlush is MachFlush: of each page, and of none below or past the last, as many as there are when it is taken.
func TestBoundsOfTurnFlush(t *testing.T) {
	t.Parallel()
	for rooms := 1; rooms <= 4; rooms++ {
		p, m := deepMach(t, rooms)
		for page := range rooms {
			out := turnsDone(t, p, m, turnFlush(page))
			if !sameMach(out, flushMach(t, p, m, page)) || sameMach(out, m) {
				t.Errorf("page %d of %d: %v", page, rooms, out)
			}
		}
		for _, page := range []int{math.MinInt, -2, -1, rooms, rooms + 1, math.MaxInt} {
			if out := turnsDone(t, p, m, turnFlush(page)); !sameMach(out, m) {
				t.Errorf("page %d of %d: %v", page, rooms, out)
			}
		}
	}
}

// P95. Pages that came by moving can be flushed then, and those that went cannot.
func TestPagesFlushedBehindMoving(t *testing.T) {
	t.Parallel()
	p, m := deepMach(t, 2)
	for rooms := 1; rooms <= 4; rooms++ {
		// The frame on page 0 calls, till there are two on each page.
		turns := turnList{turnMove(rooms), turnRun(7)}
		moved := runMach(t, p, moveTo(t, p, m, machShape{rooms, 21}), 7)
		for page := -1; page <= 4; page++ {
			out, want := turnsDone(t, p, m, append(turns, turnFlush(page))...), moved
			isPage := page >= 0 && page < rooms
			if isPage {
				want = flushMach(t, p, moved, page)
			}
			if !sameMach(out, want) || sameMach(out, moved) == isPage {
				t.Errorf("page %d of %d: %s, not %s", page, rooms, form(out), form(want))
			}
		}
	}
}

// P95. TurnMove is MoveTo of 1 to 4 pages, and no fewer nor more, with as many cells as there were.
func TestBoundsOfTurnMove(t *testing.T) {
	t.Parallel()
	p := edgeProg(t)
	for _, shape := range edgeShapes() {
		for _, steps := range []int{0, 6, 9, 400} {
			m := ranMach(t, p, shape.rooms, shape.cells, steps)
			for rooms := 1; rooms <= 4; rooms++ {
				out := turnsDone(t, p, m, turnMove(rooms))
				if !sameMach(out, moveTo(t, p, m, machShape{rooms, shape.cells})) || len(out.Pages) != rooms || out.Cells != shape.cells {
					t.Errorf("from %v to %d: %v", shape, rooms, out)
				}
			}
			for _, rooms := range []int{math.MinInt, -1, 0, 5, 6, 14, shape.cells, math.MaxInt} {
				if out := turnsDone(t, p, m, turnMove(rooms)); !sameMach(out, m) {
					t.Errorf("from %v to %d: %v", shape, rooms, out)
				}
			}
		}
	}
}

// P95. One turn is MachRun, MachFlush or MoveTo, if that is true; else nothing changes.
func TestOneTurn(t *testing.T) {
	t.Parallel()
	i := 0
	eachMachToMove(func(p impl.Prog, m impl.Mach) {
		if i++; i%4 > 0 {
			return
		}
		num := i/4%9 - 2
		for kind := -1; kind <= 4; kind++ {
			want, ok := m, false
			switch kind {
			case 1:
				want, ok = impl.MachRun(p, m, num)
			case 2:
				want, ok = impl.MachFlush(p, m, num)
			case 3:
				want, ok = impl.MoveTo(p, m, num, m.Cells)
			}
			if !ok {
				want = m
			}
			if out := turnsDone(t, p, m, impl.Turn{Kind: kind, Num: num}); !sameMach(out, want) {
				t.Fatalf("%q: of %v by the turn %d of %d\n%v, not\n%v", impl.ProgText(p), m, kind, num, out, want)
			}
		}
	})
}

// P95. Turns that cannot be change nothing, each alone, all together, and none at all.
func TestTurnsThatCannotBe(t *testing.T) {
	t.Parallel()
	met, i, list := tally{}, 0, impossible()
	eachTurns(t, func(x turnCase) {
		i++
		for _, turns := range []turnList{nil, {}, {list[i%len(list)]}, {turnFlush(len(x.m.Pages))}, list[:20], list[len(list)-20:]} {
			if out := turnsDone(t, x.p, x.m, turns...); !sameMach(out, x.m) {
				t.Fatalf("%q: %v by %v\n%v", impl.ProgText(x.p), x.m, turns, out)
			}
		}
		met.add(standing(x.m.Code, x.m.Born))
	})
	met.ask(t, 50)
	if len(list) > 40 {
		t.Errorf("%d are not all asked for together", len(list))
	}
}

// P95. Those behind a turn that cannot be are taken as if it were not there, wherever it stands.
func TestTurnsBehindOnesThatCannotBe(t *testing.T) {
	t.Parallel()
	i, list := 0, impossible()
	eachTurns(t, func(x turnCase) {
		i++
		few := x.turns[:min(len(x.turns), 10)]
		want := turnsDone(t, x.p, x.m, few...)
		none := list[i%len(list)]
		at := i % (len(few) + 1)
		one := slices.Insert(slices.Clone(few), at, none)
		var between turnList
		for j, turn := range few {
			between = append(between, list[(i+j)%len(list)], turn)
		}
		for _, turns := range []turnList{one, between} {
			if out := turnsDone(t, x.p, x.m, turns...); !sameMach(out, want) {
				t.Fatalf("%q: of %v by %v\n%v, not\n%v", impl.ProgText(x.p), x.m, turns, out, want)
			}
			if impl.TurnSteps(turns) != impl.TurnSteps(few) {
				t.Fatalf("%v: %d", turns, impl.TurnSteps(turns))
			}
		}
	})
	p := countingProg(t)
	m := newMach(t, p, 3, 20)
	for _, none := range list {
		for at := range 20 {
			turns := slices.Insert(slices.Repeat(turnList{turnRun(1)}, 19), at, none)
			if out := turnsDone(t, p, m, turns...); !sameMach(out, runMach(t, p, m, 19)) {
				t.Errorf("%v at %d: %v", none, at, out)
			}
		}
	}
}

// P92. TurnSteps of both parts together is that of all.
func TestTurnStepsOfBothParts(t *testing.T) {
	t.Parallel()
	r := rand.New(rand.NewSource(13))
	for range 3000 {
		// More than TurnMax are counted as well, though no machine takes them at once.
		turns := slices.Concat(randomTurns(r), randomTurns(r))
		all := impl.TurnSteps(turns)
		if all != modelSteps(turns) {
			t.Fatalf("%v: %d, not %d", turns, all, modelSteps(turns))
		}
		for cut := 0; cut <= len(turns); cut++ {
			if impl.TurnSteps(turns[:cut])+impl.TurnSteps(turns[cut:]) != all {
				t.Fatalf("%v, cut at %d: not %d", turns, cut, all)
			}
		}
	}
}

func TestTurnSteps(t *testing.T) {
	t.Parallel()
	for _, x := range []struct {
		turns turnList
		want  int
	}{
		{nil, 0},
		{turnList{turnRun(0)}, 0},
		{turnList{turnRun(400)}, 400},
		{turnList{turnRun(401), turnRun(-1)}, 0},
		{turnList{turnRun(3), turnFlush(1), turnRun(-1), turnMove(4), turnRun(401), turnRun(5), {Num: 7}, {Kind: 4, Num: 7}}, 8},
		{turnList{turnFlush(0), turnFlush(1), turnMove(1), turnMove(400), {Kind: -1, Num: 1}}, 0},
		{turnList{turnRun(math.MinInt), turnRun(2), turnRun(math.MaxInt)}, 2},
		{slices.Repeat(turnList{turnRun(400)}, 21), 8400},
		{slices.Repeat(turnList{turnRun(1)}, 1000), 1000},
	} {
		if got := impl.TurnSteps(x.turns); got != x.want {
			t.Errorf("%v: %d, not %d", x.turns, got, x.want)
		}
	}
	for _, none := range impossible() {
		if got := impl.TurnSteps(turnList{turnRun(1), none, turnRun(2)}); got != 3 {
			t.Errorf("%v: %d", none, got)
		}
	}
}

// A program or a machine that is not ok takes no turns, whether these can be or not (all machines that are not ok, in the tests of these,
// are asked likewise).
func TestTurnsOfWhatIsNotOk(t *testing.T) {
	t.Parallel()
	ask := func(name string, p impl.Prog, m impl.Mach) {
		t.Helper()
		for _, turns := range []turnList{nil, {{}}, {turnRun(0)}, {turnRun(400)}, {turnRun(-1)}, {turnFlush(0)}, {turnFlush(9)}, {turnMove(1)}, {turnMove(2), turnRun(1)}} {
			noTurns(t, name, p, m, turns...)
		}
		noTurns(t, name, p, m, make(turnList, 21)...)
	}
	ask("nothing at all", impl.Prog{}, impl.Mach{})
	ask("nothing", okHeapProg(t), impl.Mach{})
	for name, p := range otherProgs(t) {
		ask(name, p, okMach())
	}
	for name, change := range map[string]func(m *impl.Mach){
		"none born":           func(m *impl.Mach) { m.Born = 0 },
		"more than HeapBorn":  func(m *impl.Mach) { m.Born = 31 },
		"too few cells":       func(m *impl.Mach) { m.Cells = 13 },
		"too many cells":      func(m *impl.Mach) { m.Cells = 61 },
		"ended, and runs":     func(m *impl.Mach) { m.Code = 1 },
		"another code":        func(m *impl.Mach) { m.Code = 4 },
		"no Order":            func(m *impl.Mach) { m.Order = nil },
		"another runs":        func(m *impl.Mach) { m.Now = 2 },
		"no pages":            func(m *impl.Mach) { m.Pages, m.Order = nil, nil },
		"a twin is not there": func(m *impl.Mach) { m.Twins = m.Twins[:3] },
		"a method is not":     func(m *impl.Mach) { m.Said = vals(callVal(9)) },
	} {
		m := okMach()
		change(&m)
		ask(name, okHeapProg(t), m)
	}
	if !impl.MachOk(okHeapProg(t), okMach()) {
		t.Error("as it is: not ok")
	}
}

// All that turns come to, of a program whose calls wait on pages, and off them.
func TestFormsOfTurns(t *testing.T) {
	t.Parallel()
	p := readProg(t, "method 0 0", "call 1", "say", "num 2", "ret", "method 0 0", "call 2", "ret", "method 0 1", "here", "sender", "ret")
	m := newMach(t, p, 2, 21)
	for _, x := range []struct {
		turns turnList
		want  string
	}{
		{nil, "-[-], -[], [1 0], now 0"},
		{turnList{turnRun(1)}, "-[- -], -[], [1 0], now 0"},
		{turnList{turnRun(2)}, "-[- 0], 0[-], [0 1], now 1, 0=0.1"},
		{turnList{turnRun(2), turnFlush(2)}, "-[- 0], 0[-], [0 1], now 1, 0=0.1"},
		{turnList{turnRun(2), turnFlush(0)}, "-[], 0[-], [0 1], now 1, 0<1, 1<-"},
		{turnList{turnRun(2), turnFlush(1)}, "-[- 0], 0[1], [0 1], now 1, 0=0.1, 1=1.0"},
		{turnList{turnRun(2), turnMove(1)}, "1[0], [0], now 0, 0=0.0, 1<2, 2<-"},
		{turnList{turnRun(2), turnMove(1), turnFlush(1), turnRun(401)}, "1[0], [0], now 0, 0=0.0, 1<2, 2<-"},
		{turnList{turnRun(2), turnMove(3), turnRun(3)}, "2[1], -[], -[], [1 2 0], now 0, 0 dead, 1=0.0, 2<-"},
		{turnList{turnRun(2), turnFlush(0), turnMove(5), turnRun(400)}, "-[], -[], [0 1], now -, 0 dead, 1 dead, 2 dead"},
		{turnList{turnRun(2), turnRun(400), turnMove(4), turnRun(9), turnFlush(3)}, "-[], -[], -[], -[], [1 2 3 0], now -"},
	} {
		out := turnsDone(t, p, m, x.turns...)
		if got := form(out); got != x.want {
			t.Errorf("%v: %s, not %s", x.turns, got, x.want)
		}
		if text := impl.SaidText(out.Said); out.Cells != 21 || out.Code == 1 && text != "call 1;2;" || out.Code == 0 && text != "" || out.Code > 1 {
			t.Errorf("%v: %q, %d", x.turns, text, out.Code)
		}
	}
}

// What turns come to is new memory, and shares none with an argument; an argument is not written into, nor behind its end.
func TestTurnsComeToNewMemory(t *testing.T) {
	t.Parallel()
	i := 0
	eachTurns(t, func(x turnCase) {
		i++
		m, p, turns := roomyMach(x.m), copyProg(x.p), withRoom(x.turns, impl.Turn{Kind: 55, Num: 5})
		was := slices.Clone(turns[:len(turns)+2])
		kept := func() bool {
			return sameMach(m, x.m) && machRoomKept(m) && sameProg(p, x.p) && slices.Equal(turns[:len(turns)+2], was)
		}
		cut := i % (len(turns) + 1)
		for _, list := range []turnList{nil, {{}}, turns, turns[:cut], {turnRun(0)}, {turnFlush(0)}, {turnMove(2)}, {turnFlush(4), turnMove(5), turnRun(-1)}} {
			spoilMach(t, "TurnDo", turnsDone(t, p, m, list...), kept)
		}
		impl.TurnSteps(turns)
		impl.TurnDo(p, m, make(turnList, 21))
		if !kept() {
			t.Fatal("an argument is written into")
		}
	})
}

// Nothing is kept between two calls: the same turns come to the same, whatever was done in between.
func TestTurnsAreNotKept(t *testing.T) {
	t.Parallel()
	i := 0
	eachTurns(t, func(x turnCase) {
		if i++; i%5 > 0 {
			return
		}
		first := turnsDone(t, x.p, x.m, x.turns...)
		was := copyMach(first)
		turnsDone(t, x.p, first, x.turns...)
		impl.TurnDo(impl.Prog{}, x.m, x.turns)
		if again := turnsDone(t, x.p, x.m, x.turns...); !sameMach(again, was) || !sameMach(first, was) {
			t.Fatalf("%q: %v, then %v", impl.ProgText(x.p), was, again)
		}
	})
}
