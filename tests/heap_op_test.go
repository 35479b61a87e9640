package tests

import (
	"slices"
	"testing"

	"loop.example/gemel/impl"
)

// The calls of opHeap: one that waits, and nobody called; one that returned, with temps; the one that runs; one that waits, and the
// first called; one that returned, without temps.
const (
	firstCall = iota
	deadCall
	nowCall
	midCall
	bareCall
)

// opProg has this operation as the first one of method 1, which is of the call that runs.
func opProg(t *testing.T, op string) impl.Prog {
	t.Helper()
	return readProg(t,
		"method 0 2", "call 3", "drop", "num 1", "ret",
		"method 1 3", op, "num 0", "num 0", "num 0", "ret",
		"method 2 4", "temp 1", "ret",
		"method 0 0", "num 1", "call 1", "ret")
}

func opHeap(stack ...impl.Val) impl.Heap {
	return impl.Heap{
		Calls: []impl.Call{
			firstCall: {Method: 0, Pc: 1, Temps: []impl.Val{number(5), none}, Stack: []impl.Val{number(7)}, Sender: -1},
			deadCall:  {Method: 2, Pc: 2, Temps: []impl.Val{number(11), callVal(deadCall), none, callVal(midCall)}, Sender: -1, Dead: true},
			nowCall:   {Method: 1, Pc: 0, Temps: []impl.Val{callVal(firstCall), number(20), none}, Stack: stack, Sender: midCall},
			midCall:   {Method: 3, Pc: 2, Stack: []impl.Val{number(8), none}, Sender: firstCall},
			bareCall:  {Method: 3, Pc: 3, Sender: -1, Dead: true},
		},
		Now:  nowCall,
		Born: 7,
		Said: []impl.Val{number(1)},
	}
}

// doneOp lets the operation be done; all that the heap is to be is set by change, Pc and the taken values aside.
func doneOp(t *testing.T, op string, stack []impl.Val, left []impl.Val, change func(h *impl.Heap)) {
	t.Helper()
	p, h := opProg(t, op), opHeap(stack...)
	if !impl.HeapOk(p, h) {
		t.Fatalf("%s: %v is not ok", op, h)
	}
	want := opHeap(left...)
	want.Calls[nowCall].Pc = 1
	if change != nil {
		change(&want)
	}
	got, ok := impl.HeapStep(p, h)
	if !ok || !sameHeap(got, want) {
		t.Errorf("%s of %v: %v, %v, not\n%v", op, stack, got, ok, want)
	}
	if !impl.HeapOk(p, want) {
		t.Errorf("%s: %v is not ok", op, want)
	}
}

// leftBy lets the operation be done, which leaves values and changes nothing else.
func leftBy(t *testing.T, op string, stack []impl.Val, left ...impl.Val) {
	t.Helper()
	doneOp(t, op, stack, left, nil)
}

// stuckOp asks that it is CodeStuck, and nothing else changes.
func stuckOp(t *testing.T, op string, stack ...impl.Val) {
	t.Helper()
	refusedOp(t, op, opHeap(stack...), 2)
}

func refusedOp(t *testing.T, op string, h impl.Heap, code int) {
	t.Helper()
	want := copyHeap(h)
	want.Code = code
	endsAs(t, op, h, want)
}

// takenOp asks for a code where the operation is done: its values are taken, Pc is one more, and nothing else changes.
func takenOp(t *testing.T, op string, h impl.Heap, code int, left ...impl.Val) {
	t.Helper()
	want := copyHeap(h)
	want.Code, want.Calls[nowCall].Pc, want.Calls[nowCall].Stack = code, 1, left
	endsAs(t, op, h, want)
}

// endsAs asks that an ok heap is this one behind the operation, which stays so.
func endsAs(t *testing.T, op string, h, want impl.Heap) {
	t.Helper()
	p := opProg(t, op)
	if again, ok := impl.HeapRun(p, h, 400); !ok || !sameHeap(again, want) || !impl.HeapOk(p, want) {
		t.Errorf("%s of %v: %v, %v in the end, not\n%v", op, h.Calls[nowCall].Stack, again, ok, want)
	}
	if got, ok := impl.HeapStep(p, h); !impl.HeapOk(p, h) || !ok || !sameHeap(got, want) {
		t.Errorf("%s of %v: %v, %v, not\n%v", op, h.Calls[nowCall].Stack, got, ok, want)
	}
}

// vals is a list of values; it is named so as to be told from what is left.
func vals(list ...impl.Val) []impl.Val {
	return list
}

// P22. OpNum leaves its number.
func TestOpNum(t *testing.T) {
	leftBy(t, "num 0", nil, number(0))
	leftBy(t, "num 7", vals(none, number(3)), none, number(3), number(7))
	leftBy(t, "num 99", vals(callVal(4)), callVal(4), number(99))
}

// P23. OpTemp leaves the temp.
func TestOpTemp(t *testing.T) {
	leftBy(t, "temp 0", nil, callVal(firstCall))
	leftBy(t, "temp 1", vals(none), none, number(20))
	leftBy(t, "temp 2", nil, none)
}

// P24. OpSet sets the temp.
func TestOpSet(t *testing.T) {
	for _, v := range vals(none, number(0), number(999), callVal(nowCall), callVal(deadCall)) {
		for temp, op := range []string{"set 0", "set 1", "set 2"} {
			doneOp(t, op, vals(number(4), v), vals(number(4)), func(h *impl.Heap) { h.Calls[nowCall].Temps[temp] = v })
		}
	}
	stuckOp(t, "set 0")
}

// P25. OpDrop takes a value.
func TestOpDrop(t *testing.T) {
	for _, v := range vals(none, number(6), callVal(midCall)) {
		leftBy(t, "drop", vals(v))
		leftBy(t, "drop", vals(number(1), none, v), number(1), none)
	}
	stuckOp(t, "drop")
}

// P26. OpAdd leaves the sum, modulo 1000.
func TestOpAdd(t *testing.T) {
	for _, x := range [][3]int{{0, 0, 0}, {3, 4, 7}, {500, 499, 999}, {500, 500, 0}, {501, 500, 1}, {999, 1, 0}, {1, 999, 0}, {999, 999, 998}, {0, 999, 999}} {
		leftBy(t, "add", vals(number(x[0]), number(x[1])), number(x[2]))
		leftBy(t, "add", vals(none, number(x[0]), number(x[1])), none, number(x[2]))
	}
}

// P27. OpAdd of what is no number is CodeStuck, and nothing else changes.
func TestOpAddOfNoNumber(t *testing.T) {
	for _, v := range vals(none, callVal(firstCall), callVal(deadCall)) {
		stuckOp(t, "add", v, number(1))
		stuckOp(t, "add", number(1), v)
		stuckOp(t, "add", v, v)
		stuckOp(t, "add", number(5), v, number(1))
		// What is below is not taken.
		leftBy(t, "add", vals(v, number(1), number(2)), v, number(3))
	}
	stuckOp(t, "add", number(1))
	stuckOp(t, "add")
}

// P28. OpSame leaves whether both are the same.
func TestOpSame(t *testing.T) {
	list := vals(none, number(0), number(1), number(2), callVal(0), callVal(1), callVal(2))
	for i, a := range list {
		for j, b := range list {
			want := number(0)
			if i == j {
				want = number(1)
			}
			leftBy(t, "same", vals(a, b), want)
			leftBy(t, "same", vals(number(9), a, b), number(9), want)
		}
	}
	stuckOp(t, "same", none)
	stuckOp(t, "same")
}

// P29. OpJump goes on there.
func TestOpJump(t *testing.T) {
	for at, op := range []string{"jump 0", "jump 1", "jump 2", "jump 3", "jump 4"} {
		doneOp(t, op, vals(none, number(2)), vals(none, number(2)), func(h *impl.Heap) { h.Calls[nowCall].Pc = at })
	}
}

// P30. OpZero goes on there just if it is nothing, or 0.
func TestOpZero(t *testing.T) {
	for at, op := range []string{"zero 0", "zero 1", "zero 2", "zero 3", "zero 4"} {
		for _, v := range vals(none, number(0)) {
			doneOp(t, op, vals(number(2), v), vals(number(2)), func(h *impl.Heap) { h.Calls[nowCall].Pc = at })
		}
		for _, v := range vals(number(1), number(999), callVal(0), callVal(deadCall)) {
			leftBy(t, op, vals(number(0), v), number(0))
		}
	}
	stuckOp(t, "zero 3")
}

// calledNow is a call more, that runs, called by the one that ran.
func calledNow(h *impl.Heap, method int, temps ...impl.Val) {
	h.Calls = append(h.Calls, impl.Call{Method: method, Temps: temps, Sender: nowCall})
	h.Now, h.Born = len(h.Calls)-1, h.Born+1
}

// P31. OpCall makes a call of its arguments, that runs, or is CodeFull.
func TestOpCall(t *testing.T) {
	a, b, c := number(3), callVal(deadCall), none
	doneOp(t, "call 0", vals(a, b), vals(a, b), func(h *impl.Heap) { calledNow(h, 0, none, none) })
	doneOp(t, "call 3", nil, nil, func(h *impl.Heap) { calledNow(h, 3) })
	doneOp(t, "call 1", vals(a, b), vals(a), func(h *impl.Heap) { calledNow(h, 1, b, none, none) })
	doneOp(t, "call 2", vals(a, b, c), vals(a), func(h *impl.Heap) { calledNow(h, 2, b, c, none, none) })
	doneOp(t, "call 2", vals(c, b, a), vals(c), func(h *impl.Heap) { calledNow(h, 2, b, a, none, none) })
	doneOp(t, "call 2", vals(b, a), nil, func(h *impl.Heap) { calledNow(h, 2, b, a, none, none) })
	stuckOp(t, "call 1")
	stuckOp(t, "call 2")
	stuckOp(t, "call 2", a)
}

// With HeapBorn calls born it is CodeFull: the arguments are taken, and Pc is one more; one that is stuck is that first, and nothing is taken.
func TestOpCallAtHeapBorn(t *testing.T) {
	for method, op := range []string{"call 0", "call 1", "call 2", "call 3"} {
		h := opHeap(number(1), callVal(0), none)
		h.Born = 30
		takenOp(t, op, h, 3, vals(number(1), callVal(0), none)[:3-opProg(t, op).Methods[method].Args]...)
		h.Born = 29
		if got, ok := impl.HeapStep(opProg(t, op), h); !ok || got.Code != 0 || got.Born != 30 || got.Now != 5 {
			t.Errorf("%s with 29 born: %v", op, got)
		}
	}
	full := opHeap(number(1))
	full.Born = 30
	takenOp(t, "call 1", full, 3)
	refusedOp(t, "call 2", full, 2)
	six := slices.Repeat(vals(none), 6)
	full = opHeap(six...)
	full.Born = 30
	refusedOp(t, "call 0", full, 2)
	takenOp(t, "call 1", full, 3, six[:5]...)
	takenOp(t, "call 2", full, 3, six[:4]...)
}

// Whole programs that are full, or go back to what has returned: how the call that runs is left.
func TestTakenInWholePrograms(t *testing.T) {
	for _, x := range []struct {
		lines         []string
		code, now, pc int
		left          []impl.Val
	}{
		{[]string{"method 0 0", "call 0", "ret"}, 3, 29, 1, nil},
		{[]string{"method 0 0", "call 0"}, 3, 29, 1, nil},
		{[]string{"method 0 0", "num 5", "call 1", "ret", "method 1 1", "temp 0", "call 1", "ret"}, 3, 29, 2, nil},
		{[]string{"method 0 0", "num 5", "num 6", "call 1", "ret", "method 2 2", "num 4", "temp 0", "temp 1", "call 1", "ret"}, 3, 29, 4, vals(number(4))},
		{[]string{"method 0 0", "call 1", "drop", "jump 0", "method 0 0", "num 1", "ret"}, 3, 0, 1, nil},
		{[]string{"method 0 1", "call 1", "num 9", "back", "ret", "method 0 0", "here", "ret"}, 2, 0, 3, nil},
		{[]string{"method 0 1", "num 3", "call 1", "num 9", "back", "method 0 0", "here", "ret"}, 2, 0, 4, vals(number(3))},
	} {
		p := readProg(t, x.lines...)
		h := ranHeap(t, p, 200)
		if h.Code != x.code || h.Now != x.now || !impl.HeapOk(p, h) {
			t.Errorf("%v: %v", x.lines, h)
			continue
		}
		if c := h.Calls[x.now]; c.Pc != x.pc || !slices.Equal(c.Stack, x.left) {
			t.Errorf("%v: %v", x.lines, c)
		}
	}
}

// leaves makes a call Dead.
func leaves(h *impl.Heap, place int) {
	h.Calls[place].Stack, h.Calls[place].Sender, h.Calls[place].Dead = nil, -1, true
}

// P32. OpRet leaves its value with who called; the call is Dead; else it is said, and the end.
func TestOpRet(t *testing.T) {
	for _, v := range vals(none, number(0), number(999), callVal(nowCall), callVal(firstCall), callVal(deadCall)) {
		for _, below := range [][]impl.Val{nil, vals(number(3), none)} {
			doneOp(t, "ret", append(slices.Clone(below), v), nil, func(h *impl.Heap) {
				leaves(h, nowCall)
				h.Now = midCall
				h.Calls[midCall].Stack = vals(number(8), none, v)
			})
		}
	}
	stuckOp(t, "ret")
	for v, said := range map[impl.Val]impl.Val{
		none: none, number(0): number(0), number(12): number(12), callVal(0): callVal(1), callVal(1): callVal(2), callVal(2): callVal(0),
	} {
		checkLastRet(t, v, said)
	}
}

// checkLastRet lets a call that nobody called return a value, of methods 1, 2 and 0 being the calls 0, 1 and 2.
func checkLastRet(t *testing.T, v, said impl.Val) {
	t.Helper()
	p := opProg(t, "ret")
	h := impl.Heap{
		Calls: []impl.Call{
			{Method: 1, Temps: vals(number(1), callVal(2), none), Stack: vals(number(4), v), Sender: -1},
			{Method: 2, Temps: make([]impl.Val, 4), Sender: -1, Dead: true},
			{Method: 0, Temps: make([]impl.Val, 2), Sender: -1, Dead: true},
		},
		Born: 3,
		Said: vals(number(9)),
	}
	want := copyHeap(h)
	leaves(&want, 0)
	want.Calls[0].Pc, want.Now, want.Code, want.Said = 1, -1, 1, vals(number(9), said)
	if got, ok := impl.HeapStep(p, h); !ok || !sameHeap(got, want) || !impl.HeapOk(p, got) {
		t.Errorf("%v: %v, %v, not %v", v, got, ok, want)
	}
}

// P33. OpHere leaves the call that runs.
func TestOpHere(t *testing.T) {
	leftBy(t, "here", nil, callVal(nowCall))
	leftBy(t, "here", vals(number(2)), number(2), callVal(nowCall))
}

// P34. OpSender leaves who called, or nothing.
func TestOpSender(t *testing.T) {
	leftBy(t, "sender", vals(number(2), callVal(nowCall)), number(2), callVal(midCall))
	leftBy(t, "sender", vals(callVal(midCall)), callVal(firstCall))
	leftBy(t, "sender", vals(callVal(firstCall)), none)
	leftBy(t, "sender", vals(callVal(deadCall)), none)
	leftBy(t, "sender", vals(callVal(bareCall)), none)
	wantsCall(t, "sender")
}

// wantsCall asks that an operation of one call is stuck without.
func wantsCall(t *testing.T, op string) {
	t.Helper()
	stuckOp(t, op)
	stuckOp(t, op, none)
	stuckOp(t, op, number(0))
	stuckOp(t, op, callVal(firstCall), number(1))
	stuckOp(t, op, callVal(firstCall), none)
}

// P35. OpPeek leaves the temp, or nothing.
func TestOpPeek(t *testing.T) {
	h := opHeap()
	for a, op := range []string{"peek 0", "peek 1", "peek 2", "peek 3"} {
		for place, c := range h.Calls {
			want := none
			if a < len(c.Temps) {
				want = c.Temps[a]
			}
			leftBy(t, op, vals(none, callVal(place)), none, want)
		}
		wantsCall(t, op)
	}
}

// P36. OpPoke sets the temp, if there is one.
func TestOpPoke(t *testing.T) {
	for a, op := range []string{"poke 0", "poke 1", "poke 2", "poke 3"} {
		for place, c := range opHeap().Calls {
			for _, v := range vals(none, number(4), callVal(nowCall), callVal(bareCall)) {
				doneOp(t, op, vals(number(1), callVal(place), v), vals(number(1)), func(h *impl.Heap) {
					if a < len(c.Temps) {
						h.Calls[place].Temps[a] = v
					}
				})
			}
		}
		wantsCallBelow(t, op)
	}
}

// wantsCallBelow asks that an operation of a call, and whatever above it, is stuck without.
func wantsCallBelow(t *testing.T, op string) {
	t.Helper()
	stuckOp(t, op)
	stuckOp(t, op, callVal(firstCall))
	for _, v := range vals(none, number(0), callVal(firstCall)) {
		stuckOp(t, op, none, v)
		stuckOp(t, op, number(0), v)
		stuckOp(t, op, callVal(firstCall), number(2), v)
	}
}

// P37. OpBack makes all between Dead, or is CodeStuck.
func TestOpBack(t *testing.T) {
	for _, v := range vals(none, number(4), callVal(nowCall), callVal(deadCall)) {
		doneOp(t, "back", vals(number(1), callVal(nowCall), v), vals(number(1), v), nil)
		doneOp(t, "back", vals(number(1), callVal(midCall), v), nil, func(h *impl.Heap) {
			leaves(h, nowCall)
			h.Now, h.Calls[midCall].Stack = midCall, vals(number(8), none, v)
		})
		doneOp(t, "back", vals(callVal(firstCall), v), nil, func(h *impl.Heap) {
			leaves(h, nowCall)
			leaves(h, midCall)
			h.Now, h.Calls[firstCall].Stack = firstCall, vals(number(7), v)
		})
		for _, dead := range []int{deadCall, bareCall} {
			takenOp(t, "back", opHeap(callVal(dead), v), 2)
			takenOp(t, "back", opHeap(number(1), callVal(dead), v), 2, number(1))
		}
	}
	six := append(slices.Repeat(vals(number(2)), 4), callVal(bareCall), none)
	takenOp(t, "back", opHeap(six...), 2, six[:4]...)
	wantsCallBelow(t, "back")
}

// P38. OpSay says the value, of a call its method.
func TestOpSay(t *testing.T) {
	for v, said := range map[impl.Val]impl.Val{
		none: none, number(0): number(0), number(999): number(999),
		callVal(0): callVal(0), callVal(1): callVal(2), callVal(2): callVal(1), callVal(3): callVal(3), callVal(4): callVal(3),
	} {
		doneOp(t, "say", vals(number(5), v), vals(number(5)), func(h *impl.Heap) { h.Said = vals(number(1), said) })
	}
	stuckOp(t, "say")
}

// P39. OpDead leaves whether the call is Dead.
func TestOpDead(t *testing.T) {
	for place, want := range map[int]int{firstCall: 0, deadCall: 1, nowCall: 0, midCall: 0, bareCall: 1} {
		leftBy(t, "dead", vals(none, callVal(place)), none, number(want))
	}
	wantsCall(t, "dead")
}

// P40. OpWhere leaves Pc.
func TestOpWhere(t *testing.T) {
	for place, want := range map[int]int{firstCall: 1, deadCall: 2, nowCall: 1, midCall: 2, bareCall: 3} {
		leftBy(t, "where", vals(none, callVal(place)), none, number(want))
	}
	wantsCall(t, "where")
}

// P41. With StackMax values one more is CodeStuck, and nothing else changes.
func TestStackMaxOfCalls(t *testing.T) {
	six := vals(number(1), number(2), none, callVal(deadCall), number(5), callVal(firstCall))
	for _, op := range []string{"num 1", "temp 1", "here", "call 0", "call 3"} {
		stuckOp(t, op, six...)
	}
	five := six[:5]
	leftBy(t, "num 3", five, append(slices.Clone(five), number(3))...)
	leftBy(t, "temp 1", five, append(slices.Clone(five), number(20))...)
	leftBy(t, "here", five, append(slices.Clone(five), callVal(nowCall))...)
	doneOp(t, "call 3", five, five, func(h *impl.Heap) { calledNow(h, 3) })
	// What takes as many as it leaves, or more, may have six.
	leftBy(t, "sender", six, append(slices.Clone(five), none)...)
	leftBy(t, "peek 0", six, append(slices.Clone(five), number(5))...)
	leftBy(t, "dead", six, append(slices.Clone(five), number(0))...)
	leftBy(t, "where", six, append(slices.Clone(five), number(1))...)
	leftBy(t, "same", six, append(slices.Clone(six[:4]), number(0))...)
	leftBy(t, "drop", six, five...)
	leftBy(t, "jump 1", six, six...)
	doneOp(t, "call 1", six, five, func(h *impl.Heap) { calledNow(h, 1, callVal(firstCall), none, none) })
	doneOp(t, "ret", six, nil, func(h *impl.Heap) {
		leaves(h, nowCall)
		h.Now, h.Calls[midCall].Stack = midCall, vals(number(8), none, callVal(firstCall))
	})
}

// One that waits with as many values as it may has StackMax of them when it runs again.
func TestStackMaxOfWhoCalled(t *testing.T) {
	for _, op := range []string{"ret", "back"} {
		p, h := opProg(t, op), opHeap(callVal(midCall), number(6))
		h.Calls[midCall].Stack = slices.Repeat(vals(number(4)), 5)
		got, ok := impl.HeapStep(p, h)
		want := append(slices.Repeat(vals(number(4)), 5), number(6))
		if !ok || got.Now != midCall || !slices.Equal(got.Calls[midCall].Stack, want) || !impl.HeapOk(p, got) {
			t.Errorf("%s: %v, %v", op, got, ok)
		}
	}
}

func TestNoOperationAtPc(t *testing.T) {
	p, h := opProg(t, "drop"), opHeap(number(1))
	h.Calls[nowCall].Pc = 5
	want := copyHeap(h)
	want.Code = 2
	if got, ok := impl.HeapStep(p, h); !ok || !sameHeap(got, want) {
		t.Errorf("%v, %v", got, ok)
	}
	for _, lines := range [][]string{{"method 0 0"}, {"method 0 1", "num 1", "set 0"}, {"method 0 0", "call 1", "method 0 0"}} {
		if h := ranHeap(t, readProg(t, lines...), 400); h.Code != 2 || len(h.Said) != 0 {
			t.Errorf("%v: %v", lines, h)
		}
	}
}

// Whole programs, and what they say.
func TestWholeProgramsOfCalls(t *testing.T) {
	for _, x := range []struct {
		lines []string
		said  []impl.Val
		code  int
	}{
		// Sums, by a loop that does not end.
		{[]string{"method 0 1", "num 99", "set 0", "temp 0", "temp 0", "add", "set 0", "temp 0", "say", "jump 2"},
			vals(number(198), number(396), number(792), number(584), number(168)), 0},
		// Arguments in order.
		{[]string{"method 0 0", "num 3", "num 4", "call 1", "ret", "method 2 2", "temp 0", "say", "temp 1", "ret"}, vals(number(3), number(4)), 1},
		// One that has returned is looked at, set, asked who called it, and gone back to.
		{[]string{"method 0 1", "call 1", "set 0", "temp 0", "num 8", "poke 1", "temp 0", "peek 1", "say", "temp 0", "where", "say", "temp 0", "num 1", "back",
			"method 0 2", "here", "ret"}, vals(number(8), number(2)), 2},
		{[]string{"method 0 1", "call 1", "set 0", "temp 0", "dead", "say", "temp 0", "sender", "say", "temp 0", "say", "temp 0", "ret", "method 0 0", "here", "ret"},
			vals(number(1), none, callVal(1), callVal(1)), 1},
		// Back from a call of a call, to where the first one waits; it goes on behind its call.
		{[]string{"method 0 0", "here", "call 1", "say", "num 0", "ret", "method 1 1", "temp 0", "call 2", "say", "num 1", "ret", "method 1 1", "temp 0", "num 42", "back"},
			vals(number(42), number(0)), 1},
		// Who called is asked for on and on, till nobody did.
		{[]string{"method 0 0", "call 1", "ret", "method 0 1", "here", "say", "here", "sender", "say", "here", "sender", "sender", "ret"},
			vals(callVal(1), callVal(0), none), 1},
		// The temps of who called are set.
		{[]string{"method 0 1", "call 1", "drop", "temp 0", "ret", "method 0 0", "here", "sender", "num 17", "poke 0", "num 0", "ret"}, vals(number(17)), 1},
	} {
		steps := 400
		if x.code == 0 {
			steps = 2 + 7*len(x.said)
		}
		p := readProg(t, x.lines...)
		if h := ranHeap(t, p, steps); !slices.Equal(h.Said, x.said) || h.Code != x.code {
			t.Errorf("%v: %v, %d", x.lines, h.Said, h.Code)
		}
	}
}
