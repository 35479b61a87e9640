package tests

import (
	"fmt"
	"math/rand"
	"slices"
	"testing"

	"loop.example/gemel/impl"
)

// stepBoth does one operation on pages, and on the heap that the machine is moved out to: the same is said, and seen. So it is on other
// pages, and on pages that the heap is moved in to.
func stepBoth(t *testing.T, p impl.Prog, m impl.Mach) impl.Mach {
	t.Helper()
	next, h := runMach(t, p, m, 1), moveOut(t, p, m)
	want := runHeap(t, p, h, 1)
	sameAsHeap(t, p, next, want)
	sameAsHeap(t, p, runMach(t, p, moveIn(t, p, h, machShape{1, 14}), 1), want)
	if !impl.MachOk(p, next) {
		t.Fatalf("%q: %v is not ok", impl.ProgText(p), next)
	}
	return next
}

// opDone is an operation that was done on pages: what it took (fit is false, if it is stuck ahead of that), and the machines around it.
type opDone struct {
	p             impl.Prog
	a             int
	taken         []impl.Val
	fit           bool
	before, after impl.Mach
}

// eachOpDone does, with stepBoth, each operation that is next on some machine, and is told by this word.
func eachOpDone(t *testing.T, word string, look func(x opDone)) {
	t.Helper()
	do := func(p impl.Prog, m impl.Mach) {
		if m.Code != 0 {
			return
		}
		f := modelTop(&m)
		ops := p.Methods[f.Method].Ops
		if f.Pc == len(ops) || kindRows[ops[f.Pc].Kind-1].word != word {
			return
		}
		_, a, taken, fit := modelTaken(p, f.Method, f.Pc, f.Stack)
		after := stepBoth(t, p, m)
		if !fit && after.Code != 2 {
			t.Fatalf("%q: of %v\n%v", impl.ProgText(p), m, after)
		}
		look(opDone{p, a, taken, fit, m, after})
	}
	eachMachAndOdd(do)
	r := rand.New(rand.NewSource(12))
	for i, x := range oddMachs() {
		if i%2 == 0 {
			do(aimed(r, x.p, x.m, word))
		}
	}
}

// aimed is a machine that runs, and has this operation next, mostly with values of the kinds that it takes.
func aimed(r *rand.Rand, prog impl.Prog, was impl.Mach, word string) (impl.Prog, impl.Mach) {
	p, m := copyProg(prog), copyMach(was)
	m.Code = 0
	f := modelTop(&m)
	method := &p.Methods[f.Method]
	f.Pc = min(f.Pc, 13)
	if f.Pc == len(method.Ops) {
		method.Ops = append(method.Ops, impl.Op{Kind: impl.OpHere})
	}
	row := kindRows[slices.IndexFunc(kindRows, func(row kindRow) bool { return row.word == word })]
	op := impl.Op{Kind: row.kind}
	if places := ownedBy(row, p, *method); places > 0 {
		op.A = r.Intn(places)
	} else {
		op.Kind = impl.OpHere
	}
	method.Ops[f.Pc] = op
	for i, want := range wants[word] {
		if want == 'c' && len(m.Twins) > 0 && r.Intn(8) > 0 {
			f.Stack = append(f.Stack[:min(len(f.Stack), 4+i)], callVal(r.Intn(len(m.Twins))))
		} else {
			f.Stack = append(f.Stack[:min(len(f.Stack), 4+i)], randomVal(r, max(1, len(m.Twins))))
		}
	}
	if len(m.Twins) == 0 {
		f.Stack = slices.DeleteFunc(f.Stack, func(v impl.Val) bool { return v.Kind == 2 })
	}
	return p, m
}

// topVal is the last value of the call that runs.
func topVal(m impl.Mach) impl.Val {
	stack := modelTop(&m).Stack
	return stack[len(stack)-1]
}

// whereIs tells where a twin is that is looked at from the call that runs.
func whereIs(m impl.Mach, twin int) map[string]bool {
	x := m.Twins[twin]
	here := x.Page == m.Now && x.Page != -1
	return map[string]bool{
		"the call that runs":        here && x.At == len(m.Pages[x.Page].Frames)-1,
		"a frame below on the page": here && x.At < len(m.Pages[x.Page].Frames)-1,
		"a frame on another page":   x.Page != -1 && !here,
		"on no page, and waits":     x.Page == -1 && !x.Left.Dead,
		"Dead":                      x.Page == -1 && x.Left.Dead,
	}
}

// P74. OpCall on pages is seen as else. (THE SAME.)
func TestCallOnPages(t *testing.T) {
	t.Parallel()
	met := tally{}
	eachOpDone(t, "call", func(x opDone) {
		full, size := x.before.Born == 30, len(x.before.Pages[x.before.Now].Frames)
		if !x.fit {
			met["too few to take"]++
			return
		}
		if full {
			met["full"]++
			if x.after.Code != 3 || x.after.Born != 30 || impl.MachDeep(x.after) != impl.MachDeep(x.before) {
				t.Fatalf("%q: of %v\n%v", impl.ProgText(x.p), x.before, x.after)
			}
			return
		}
		f := modelTop(&x.after)
		temps := slices.Concat(x.taken, make([]impl.Val, len(f.Temps)-len(x.taken)))
		if f.Method != x.a || f.Pc != 0 || f.Twin != -1 || len(f.Stack) != 0 || !slices.Equal(f.Temps, temps) || x.after.Born != x.before.Born+1 {
			t.Fatalf("%q: of %v\n%v", impl.ProgText(x.p), x.before, x.after)
		}
		on := x.after.Pages[x.after.Now]
		met.add(map[string]bool{
			"on the same page":                   x.after.Now == x.before.Now && len(on.Frames) == size+1,
			"on one without frames":              x.after.Now != x.before.Now && len(x.before.Pages[x.after.Now].Frames) == 0,
			"on another one that is flushed":     x.after.Now != x.before.Now && len(x.before.Pages[x.after.Now].Frames) > 0,
			"on the same one, which is flushed":  x.after.Now == x.before.Now && len(on.Frames) == 1,
			"with arguments":                     len(x.taken) > 0,
			"with a call as an argument":         slices.ContainsFunc(x.taken, func(v impl.Val) bool { return v.Kind == 2 }),
			"the last one that is born":          x.after.Born == 30,
			"several frames, and all get a twin": len(x.after.Twins) > len(x.before.Twins)+1,
		})
	})
	met.ask(t, 20)
}

// P75. OpRet on pages is seen as else. (THE SAME.)
func TestRetOnPages(t *testing.T) {
	t.Parallel()
	met := tally{}
	eachOpDone(t, "ret", func(x opDone) {
		if !x.fit {
			met["nothing to return"]++
			return
		}
		left := modelTop(&x.before)
		if left.Twin != -1 && !x.after.Twins[left.Twin].Left.Dead {
			t.Fatalf("%q: of %v\n%v", impl.ProgText(x.p), x.before, x.after)
		}
		page := x.before.Pages[x.before.Now]
		off := page.Base != -1 && x.before.Twins[page.Base].Page == -1
		if x.after.Now != -1 && topVal(x.after) != x.taken[0] || x.after.Now == -1 && len(x.after.Said) != len(x.before.Said)+1 {
			t.Fatalf("%q: of %v\n%v", impl.ProgText(x.p), x.before, x.after)
		}
		met.add(map[string]bool{
			"to the frame below":       len(page.Frames) > 1,
			"to another page":          len(page.Frames) == 1 && page.Base != -1 && !off,
			"to one on no page":        len(page.Frames) == 1 && off,
			"the end":                  x.after.Now == -1,
			"the end, a call is said":  x.after.Now == -1 && x.taken[0].Kind == 2,
			"of one that has a twin":   left.Twin != -1,
			"of one that has none":     left.Twin == -1,
			"a call is returned":       x.taken[0].Kind == 2,
			"the call itself":          left.Twin != -1 && x.taken[0] == callVal(left.Twin),
			"nothing, or a number, is": x.taken[0].Kind != 2,
		})
	})
	met.ask(t, 20)
}

// P76. OpHere on pages is seen as else, and leaves the frame's twin.
func TestHereOnPages(t *testing.T) {
	t.Parallel()
	met := tally{}
	eachOpDone(t, "here", func(x opDone) {
		if !x.fit {
			met["no room"]++
			return
		}
		had, f := modelTop(&x.before).Twin, modelTop(&x.after)
		at := len(x.after.Pages[x.after.Now].Frames) - 1
		if f.Twin == -1 || topVal(x.after) != callVal(f.Twin) || !sameTwin(x.after.Twins[f.Twin], impl.Twin{Page: x.after.Now, At: at}) {
			t.Fatalf("%q: of %v\n%v", impl.ProgText(x.p), x.before, x.after)
		}
		if had == -1 && (f.Twin != len(x.before.Twins) || len(x.after.Twins) != f.Twin+1) || had != -1 && (f.Twin != had || len(x.after.Twins) != len(x.before.Twins)) {
			t.Fatalf("%q: of %v\n%v", impl.ProgText(x.p), x.before, x.after)
		}
		met.add(map[string]bool{"has a twin": had != -1, "gets a twin": had == -1, "not the lowest": at > 0, "the lowest": at == 0})
	})
	met.ask(t, 20)
}

// P77. OpSender on pages is seen as else. (THE SAME.)
func TestSenderOnPages(t *testing.T) {
	t.Parallel()
	met := tally{}
	eachOpDone(t, "sender", func(x opDone) {
		if !x.fit {
			met["of what is no call"]++
			return
		}
		of := x.before.Twins[x.taken[0].Num]
		met.add(whereIs(x.before, x.taken[0].Num))
		switch {
		case of.Page == -1:
			if of.Left.Dead && topVal(x.after) != none || !of.Left.Dead && of.Left.Sender != -1 && topVal(x.after) != callVal(of.Left.Sender) {
				t.Fatalf("%q: of %v\n%v", impl.ProgText(x.p), x.before, x.after)
			}
			met["on no page, nobody called"] = counted(met["on no page, nobody called"], !of.Left.Dead && of.Left.Sender == -1)
		case of.At == 0:
			base := x.before.Pages[of.Page].Base
			met.add(map[string]bool{
				"the lowest, nobody called":       base == -1,
				"the lowest, one on another page": base != -1 && x.before.Twins[base].Page != -1,
				"the lowest, one on no page":      base != -1 && x.before.Twins[base].Page == -1,
			})
			if base == -1 && topVal(x.after) != none || base != -1 && topVal(x.after) != callVal(base) {
				t.Fatalf("%q: of %v\n%v", impl.ProgText(x.p), x.before, x.after)
			}
		default:
			below := x.after.Pages[of.Page].Frames[of.At-1].Twin
			had := x.before.Pages[of.Page].Frames[of.At-1].Twin
			met.add(map[string]bool{"one below, with a twin": had != -1, "one below, gets a twin": had == -1})
			if below == -1 || had != -1 && had != below || topVal(x.after) != callVal(below) {
				t.Fatalf("%q: of %v\n%v", impl.ProgText(x.p), x.before, x.after)
			}
		}
	})
	met.ask(t, 20)
}

// P78. OpPeek on pages is seen as else.
func TestPeekOnPages(t *testing.T) {
	t.Parallel()
	met := tally{}
	eachOpDone(t, "peek", func(x opDone) {
		if !x.fit {
			met["of what is no call"]++
			return
		}
		_, _, temps, _ := modelLooked(&x.before, x.taken[0].Num)
		met.add(whereIs(x.before, x.taken[0].Num), map[string]bool{"a temp": x.a < len(temps), "none": x.a >= len(temps)})
		want := append(slices.Clone(temps), none, none, none, none)[x.a]
		if topVal(x.after) != want {
			t.Fatalf("%q: of %v\n%v", impl.ProgText(x.p), x.before, x.after)
		}
	})
	met.ask(t, 20)
}

// P79. OpPoke on pages is seen as else.
func TestPokeOnPages(t *testing.T) {
	t.Parallel()
	met := tally{}
	eachOpDone(t, "poke", func(x opDone) {
		if !x.fit {
			met["of what is no call"]++
			return
		}
		was := copyMach(x.before)
		_, _, temps, _ := modelLooked(&was, x.taken[0].Num)
		_, _, now, _ := modelLooked(&x.after, x.taken[0].Num)
		met.add(whereIs(x.before, x.taken[0].Num), map[string]bool{
			"a temp": x.a < len(temps), "none": x.a >= len(temps), "a call is put": x.taken[1].Kind == 2 && x.a < len(temps)})
		if x.a < len(temps) {
			temps[x.a] = x.taken[1]
		}
		if !slices.Equal(temps, now) {
			t.Fatalf("%q: of %v\n%v", impl.ProgText(x.p), x.before, x.after)
		}
	})
	met.ask(t, 20)
}

// P80. OpBack on pages is seen as else. (THE SAME.)
func TestBackOnPages(t *testing.T) {
	t.Parallel()
	met := tally{}
	eachOpDone(t, "back", func(x opDone) {
		if !x.fit {
			met["to what is no call"]++
			return
		}
		to := x.taken[0].Num
		met.add(whereIs(x.before, to), map[string]bool{"a call is left": x.taken[1].Kind == 2})
		if _, _, _, dead := modelLooked(&x.before, to); dead {
			if x.after.Code != 2 || impl.MachDeep(x.after) != impl.MachDeep(x.before) {
				t.Fatalf("%q: of %v\n%v", impl.ProgText(x.p), x.before, x.after)
			}
			return
		}
		if x.after.Code != 0 || modelTop(&x.after).Twin != to || topVal(x.after) != x.taken[1] {
			t.Fatalf("%q: of %v\n%v", impl.ProgText(x.p), x.before, x.after)
		}
		left := impl.MachDeep(x.before) - impl.MachDeep(x.after)
		met.add(map[string]bool{"over one": left == 1, "over several": left > 1})
	})
	met.ask(t, 20)
}

// P81. OpDead, OpWhere and OpSay on pages are seen as else.
func TestDeadWhereAndSayOnPages(t *testing.T) {
	t.Parallel()
	for _, word := range []string{"dead", "where"} {
		met := tally{}
		eachOpDone(t, word, func(x opDone) {
			if !x.fit {
				met["of what is no call"]++
				return
			}
			// Its own Pc is one more when it is asked for.
			before := copyMach(x.before)
			modelTop(&before).Pc++
			_, pc, _, dead := modelLooked(&before, x.taken[0].Num)
			want := map[string]int{"dead": counted(0, dead), "where": pc}[word]
			if topVal(x.after) != number(want) {
				t.Fatalf("%q: of %v\n%v", impl.ProgText(x.p), x.before, x.after)
			}
			met.add(whereIs(x.before, x.taken[0].Num))
		})
		met.ask(t, 20)
	}
	met := tally{}
	eachOpDone(t, "say", func(x opDone) {
		if !x.fit {
			met["there is none"]++
			return
		}
		want := x.taken[0]
		if want.Kind == 2 {
			met.add(whereIs(x.before, want.Num))
			want.Num, _, _, _ = modelLooked(&x.before, want.Num)
		}
		if !slices.Equal(x.after.Said, append(slices.Clone(x.before.Said), want)) {
			t.Fatalf("%q: of %v\n%v", impl.ProgText(x.p), x.before, x.after)
		}
		met.add(map[string]bool{"nothing": want == none, "a number": want.Kind == 1})
	})
	met.ask(t, 20)
}

// P82. OpSame on pages is seen as else.
func TestSameOnPages(t *testing.T) {
	t.Parallel()
	met := tally{}
	eachOpDone(t, "same", func(x opDone) {
		if !x.fit {
			met["there are too few"]++
			return
		}
		a, b := x.taken[0], x.taken[1]
		if topVal(x.after) != number(counted(0, a == b)) {
			t.Fatalf("%q: of %v\n%v", impl.ProgText(x.p), x.before, x.after)
		}
		met.add(map[string]bool{
			"one call":           a.Kind == 2 && a == b,
			"two calls":          a.Kind == 2 && b.Kind == 2 && a != b,
			"a call, and not":    (a.Kind == 2) != (b.Kind == 2),
			"one number":         a.Kind == 1 && a == b,
			"two numbers":        a.Kind == 1 && b.Kind == 1 && a != b,
			"nothing, and not":   (a == none) != (b == none),
			"nothing, and again": a == none && b == none,
		})
	})
	met.ask(t, 20)
}

// P83. All else on pages is seen as else.
func TestAllElseOnPages(t *testing.T) {
	t.Parallel()
	for _, word := range []string{"num", "temp", "set", "drop", "add", "jump", "zero"} {
		met := tally{}
		eachOpDone(t, word, func(x opDone) {
			met.add(map[string]bool{"done": x.fit, "not the lowest": len(x.before.Pages[x.before.Now].Frames) > 1})
			if word != "jump" {
				met.add(map[string]bool{"stuck": !x.fit})
			}
			if x.after.Born != x.before.Born || len(x.after.Twins) != len(x.before.Twins) || x.after.Now != x.before.Now {
				t.Fatalf("%q: of %v\n%v", impl.ProgText(x.p), x.before, x.after)
			}
		})
		met.ask(t, 20)
	}
	// What does not run, and what has no operation at Pc, likewise.
	met := tally{}
	eachMachToMove(func(p impl.Prog, m impl.Mach) {
		if m.Code != 0 {
			met.add(standing(m.Code, 0))
			if after := stepBoth(t, p, m); !sameMach(after, m) {
				t.Fatalf("%q: %v changed to %v", impl.ProgText(p), m, after)
			}
			return
		}
		if f := modelTop(&m); f.Pc == len(p.Methods[f.Method].Ops) {
			met["no operation"]++
			if after := stepBoth(t, p, m); after.Code != 2 {
				t.Fatalf("%q: of %v\n%v", impl.ProgText(p), m, after)
			}
		}
	})
	for _, name := range []string{"ended", "stuck", "full", "no operation"} {
		if met[name] < 20 {
			t.Errorf("only %d times: %s", met[name], name)
		}
	}
}

// The twins of opMach are those of okMach; one that has returned, with temps; and those of the lowest frames of pages 0 and 2, if they
// have one.
const (
	goneTwin = lastTwin + 1 + iota
	lowTwin
	farTwin
)

// opMach is okMach, with the call that runs at its first operation, and these values.
func opMach(stack ...impl.Val) impl.Mach {
	m := okMach()
	f := modelTop(&m)
	f.Pc, f.Stack = 0, stack
	gone := impl.Call{Method: 2, Pc: 2, Temps: vals(number(11), callVal(lastTwin), none, callVal(goneTwin)), Sender: -1, Dead: true}
	m.Twins = append(m.Twins, impl.Twin{Page: -1, Left: gone})
	return m
}

// lookedAt lets the lowest frames of pages 0 and 2 have twins.
func lookedAt(m impl.Mach) impl.Mach {
	modelTwin(&m, 0, 0)
	modelTwin(&m, 2, 0)
	return m
}

// leftOnPages does an operation on pages, and asks for the value that it leaves there.
func leftOnPages(t *testing.T, op string, m impl.Mach, want impl.Val) impl.Mach {
	t.Helper()
	p := opProg(t, op)
	if !impl.MachOk(p, m) {
		t.Fatalf("%s: %v is not ok", op, m)
	}
	after := stepBoth(t, p, m)
	if after.Code != 0 || topVal(after) != want {
		t.Errorf("%s of %v: %v, not %v, and %d", op, modelTop(&m).Stack, modelTop(&after).Stack, want, after.Code)
	}
	return after
}

// P76 to P82. What is looked at is told the same, wherever it is: each operation, of each of the calls that can be looked at.
func TestLookingOnPages(t *testing.T) {
	t.Parallel()
	here := leftOnPages(t, "here", opMach(), callVal(upperTwin))
	if len(here.Twins) != 5 {
		t.Errorf("%v", here)
	}
	for twin, want := range map[int]struct {
		sender      impl.Val
		temps       []impl.Val
		pc, dead    int
		method      int
		senderAlone impl.Val
	}{
		upperTwin: {callVal(lowTwin), vals(callVal(lastTwin), none, none, none), 1, 0, 1, callVal(5)},
		waitTwin:  {callVal(lastTwin), vals(none, number(7), callVal(upperTwin), none), 1, 0, 2, callVal(lastTwin)},
		deadTwin:  {none, vals(none, none, none, none), 3, 1, 3, none},
		lastTwin:  {callVal(farTwin), vals(none, none, none, none), 2, 0, 3, callVal(5)},
		goneTwin:  {none, vals(number(11), callVal(lastTwin), none, callVal(goneTwin)), 2, 1, 2, none},
		lowTwin:   {callVal(waitTwin), vals(number(1), none, callVal(deadTwin), none), 1, 0, 1, none},
		farTwin:   {none, vals(number(5), callVal(waitTwin), none, none), 1, 0, 0, none},
	} {
		m := lookedAt(opMach(number(3), callVal(twin)))
		leftOnPages(t, "sender", m, want.sender)
		leftOnPages(t, "where", m, number(want.pc))
		leftOnPages(t, "dead", m, number(want.dead))
		for a := range 4 {
			leftOnPages(t, fmt.Sprintf("peek %d", a), m, want.temps[a])
			pokedOnPages(t, twin, a, number(42))
			pokedOnPages(t, twin, a, callVal(goneTwin))
			pokedOnPages(t, twin, a, callVal(twin))
		}
		if after := stepBoth(t, opProg(t, "say"), m); !slices.Equal(after.Said, vals(number(1), callVal(want.method))) {
			t.Errorf("twin %d: %v", twin, after.Said)
		}
		for other := range 7 {
			leftOnPages(t, "same", lookedAt(opMach(callVal(twin), callVal(other))), number(counted(0, twin == other)))
			leftOnPages(t, "same", lookedAt(opMach(callVal(twin), number(other))), number(0))
		}
		// Who called gets a twin only when it is asked for.
		if twin <= goneTwin {
			leftOnPages(t, "sender", opMach(callVal(twin)), want.senderAlone)
		}
	}
}

// pokedOnPages sets a temp of a call on pages; nothing else is to change, and nothing at all, if there is none.
func pokedOnPages(t *testing.T, twin int, a int, v impl.Val) {
	t.Helper()
	op := fmt.Sprintf("poke %d", a)
	m := lookedAt(opMach(number(3), callVal(twin), v))
	want := copyMach(m)
	modelTop(&want).Pc, modelTop(&want).Stack = 1, vals(number(3))
	if _, _, temps, _ := modelLooked(&want, twin); a < len(temps) {
		temps[a] = v
	}
	if after := stepBoth(t, opProg(t, op), m); !sameMach(after, want) {
		t.Errorf("%s of twin %d: %v, not %v", op, twin, after, want)
	}
}

// P80. Back to each of the calls that can be looked at: those between are Dead, and no others.
func TestBackToEachOnPages(t *testing.T) {
	t.Parallel()
	p := opProg(t, "back")
	for _, x := range []struct {
		to   int
		want string
	}{
		{upperTwin, "1[5 0], -[], -[6 3], [1 2 0], now 0, 0=0.1, 1<3, 2 dead, 3=2.1, 4 dead, 5=0.0, 6=2.0"},
		{lowTwin, "1[5], -[], -[6 3], [1 2 0], now 0, 0 dead, 1<3, 2 dead, 3=2.1, 4 dead, 5=0.0, 6=2.0"},
		{waitTwin, "3[1], -[], -[6 3], [1 2 0], now 0, 0 dead, 1=0.0, 2 dead, 3=2.1, 4 dead, 5 dead, 6=2.0"},
		{lastTwin, "-[], -[], -[6 3], [1 0 2], now 2, 0 dead, 1 dead, 2 dead, 3=2.1, 4 dead, 5 dead, 6=2.0"},
		{farTwin, "-[], -[], -[6], [1 0 2], now 2, 0 dead, 1 dead, 2 dead, 3 dead, 4 dead, 5 dead, 6=2.0"},
	} {
		m := lookedAt(opMach(number(3), callVal(x.to), callVal(goneTwin)))
		if after := leftOnPages(t, "back", m, callVal(goneTwin)); form(after) != x.want {
			t.Errorf("to %d: %s, not %s", x.to, form(after), x.want)
		}
	}
	for _, to := range []int{deadTwin, goneTwin} {
		m := lookedAt(opMach(number(3), callVal(to), number(4)))
		want := copyMach(m)
		modelTop(&want).Pc, modelTop(&want).Stack, want.Code = 1, vals(number(3)), 2
		if after := stepBoth(t, p, m); !sameMach(after, want) {
			t.Errorf("to %d: %v, not %v", to, after, want)
		}
	}
}

// P74 to P83. What cannot be done is stuck, or full, on pages as else: too few values, no room, and values that are not of their kind.
func TestStuckAndFullOnPages(t *testing.T) {
	t.Parallel()
	six := slices.Repeat(vals(number(2)), 6)
	for op, stacks := range map[string][][]impl.Val{
		"num 3": {six}, "temp 0": {six}, "here": {six}, "set 0": {nil}, "drop": {nil}, "zero 0": {nil}, "ret": {nil}, "say": {nil},
		"add":    {nil, vals(number(1)), vals(number(1), none), vals(none, number(1)), vals(callVal(0), number(1)), vals(number(1), callVal(0))},
		"same":   {nil, vals(number(1))},
		"sender": {nil, vals(number(0)), vals(none)},
		"peek 0": {nil, vals(number(0)), vals(none)},
		"poke 0": {nil, vals(callVal(0)), vals(number(0), callVal(0)), vals(none, number(1))},
		"back":   {nil, vals(callVal(0)), vals(number(0), callVal(0)), vals(none, number(1))},
		"dead":   {nil, vals(number(0)), vals(none)},
		"where":  {nil, vals(number(0)), vals(none)},
		"call 1": {nil},
		"call 2": {nil, vals(number(1))},
		"call 3": {six},
		"call 0": {six},
	} {
		for _, stack := range stacks {
			m := opMach(stack...)
			want := copyMach(m)
			want.Code = 2
			if after := stepBoth(t, opProg(t, op), m); !sameMach(after, want) {
				t.Errorf("%s of %v: %v, not %v", op, stack, after, want)
			}
		}
	}
	for a, left := range [][]impl.Val{vals(number(7), callVal(0)), vals(number(7)), nil, vals(number(7), callVal(0))} {
		m := opMach(number(7), callVal(0))
		m.Born = 30
		want := copyMach(m)
		modelTop(&want).Pc, modelTop(&want).Stack, want.Code = 1, left, 3
		if after := stepBoth(t, opProg(t, fmt.Sprintf("call %d", a)), m); !sameMach(after, want) {
			t.Errorf("call %d: %v, not %v", a, after, want)
		}
		m.Born = 29
		if after := stepBoth(t, opProg(t, fmt.Sprintf("call %d", a)), m); after.Code != 0 || after.Born != 30 || modelTop(&after).Method != a {
			t.Errorf("call %d: %v", a, after)
		}
	}
}
