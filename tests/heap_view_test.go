package tests

import (
	"math"
	"math/rand"
	"slices"
	"testing"

	"loop.example/gemel/impl"
)

func eachHeapAndOdd(look func(p impl.Prog, h impl.Heap)) {
	eachHeap(func(p impl.Prog, h impl.Heap, _ int) { look(p, h) })
	for _, x := range oddHeaps() {
		look(x.p, x.heaps[0])
	}
}

func trimHeap(t *testing.T, p impl.Prog, h impl.Heap) impl.Heap {
	t.Helper()
	out, ok := impl.HeapTrim(p, h)
	if !ok {
		t.Fatalf("%q: %v is not trimmed", impl.ProgText(p), h)
	}
	return out
}

func TestViewInOrder(t *testing.T) {
	h := opHeap(callVal(bareCall), number(4), callVal(nowCall))
	want := []impl.Call{
		{Method: 1, Temps: vals(callVal(2), number(20), none), Stack: vals(callVal(3), number(4), callVal(0)), Sender: 1},
		{Method: 3, Pc: 2, Stack: vals(number(8), none), Sender: 2},
		{Method: 0, Pc: 1, Temps: vals(number(5), none), Stack: vals(number(7)), Sender: -1},
		{Method: 3, Pc: 3, Sender: -1, Dead: true},
	}
	if view := impl.HeapView(h); !sameCalls(view, want) {
		t.Errorf("%v", view)
	}
	// One that has returned leads on by its temps.
	h.Calls[nowCall].Temps[2] = callVal(deadCall)
	want[0].Temps[2], want[0].Stack[0] = callVal(3), callVal(4)
	want = append(want[:3:3], impl.Call{Method: 2, Pc: 2, Temps: vals(number(11), callVal(3), none, callVal(1)), Sender: -1, Dead: true}, want[3])
	if view := impl.HeapView(h); !sameCalls(view, want) {
		t.Errorf("%v", view)
	}
}

// placesSeen is the methods of a view, where each call is of a method of its own.
func placesSeen(h impl.Heap) []int {
	for place := range h.Calls {
		h.Calls[place].Method = place
	}
	var out []int
	for _, c := range impl.HeapView(h) {
		out = append(out, c.Method)
	}
	return out
}

// The Sender is first, then temps, then values; of each call as they stand there, not as soon as one comes to it.
func TestOrderOfTheView(t *testing.T) {
	c := func(sender int, temps []impl.Val, stack ...impl.Val) impl.Call {
		return impl.Call{Sender: sender, Temps: temps, Stack: stack}
	}
	for i, x := range []struct {
		calls []impl.Call
		now   int
		want  []int
	}{
		{[]impl.Call{c(-1, nil)}, 0, []int{0}},
		{[]impl.Call{c(3, vals(callVal(2)), callVal(1)), c(-1, nil), c(-1, nil), c(-1, nil)}, 0, []int{0, 3, 2, 1}},
		{[]impl.Call{c(1, vals(callVal(2)), callVal(3)), c(4, vals(callVal(5))), c(6, nil), c(-1, nil), c(-1, nil), c(-1, nil), c(-1, nil)}, 0, []int{0, 1, 2, 3, 4, 5, 6}},
		{[]impl.Call{c(-1, vals(callVal(2), callVal(1))), c(-1, nil), c(3, nil), c(-1, nil)}, 0, []int{0, 2, 1, 3}},
		{[]impl.Call{c(-1, nil), c(0, vals(callVal(1), callVal(0), callVal(2)), callVal(2)), c(-1, nil)}, 1, []int{1, 0, 2}},
		{[]impl.Call{c(1, nil), c(0, nil), c(-1, nil)}, 1, []int{1, 0}},
		{[]impl.Call{c(-1, nil), c(-1, nil, callVal(3), callVal(0)), c(-1, nil), c(-1, nil, callVal(1))}, 3, []int{3, 1, 0}},
		{[]impl.Call{c(0, vals(number(1), impl.Val{Num: 1}, impl.Val{Kind: 3, Num: 1})), c(-1, nil)}, 0, []int{0}},
	} {
		if got := placesSeen(impl.Heap{Calls: x.calls, Now: x.now}); !slices.Equal(got, x.want) {
			t.Errorf("%d: %v, not %v", i, got, x.want)
		}
	}
}

// P18. HeapView of it is the same, and begins with the call that runs.
func TestViewOfTheView(t *testing.T) {
	fewer, dead := 0, 0
	eachHeapAndOdd(func(p impl.Prog, h impl.Heap) {
		view := impl.HeapView(h)
		if !sameCalls(view, modelView(h)) {
			t.Fatalf("%q: of %v\n%v, not\n%v", impl.ProgText(p), h, view, modelView(h))
		}
		if again := impl.HeapView(impl.Heap{Calls: view}); !sameCalls(again, view) {
			t.Fatalf("%q: %v, then %v", impl.ProgText(p), view, again)
		}
		if (h.Now == -1) != (len(view) == 0) {
			t.Fatalf("%q: of %v\n%v", impl.ProgText(p), h, view)
		}
		if h.Now != -1 {
			now := h.Calls[h.Now]
			if view[0].Method != now.Method || view[0].Pc != now.Pc || view[0].Dead || len(view[0].Stack) != len(now.Stack) {
				t.Fatalf("%q: %v does not begin %v", impl.ProgText(p), now, view)
			}
		}
		if len(view) < len(h.Calls) {
			fewer++
		}
		if slices.ContainsFunc(view, func(c impl.Call) bool { return c.Dead }) {
			dead++
		}
	})
	if fewer < 500 || dead < 500 {
		t.Errorf("%d, %d", fewer, dead)
	}
}

// HeapView asks for no ok heap: what is no call is -1 there, and if no call runs nothing is seen.
func TestViewOfAnyHeap(t *testing.T) {
	for _, now := range []int{math.MinInt, -2, -1, 1, 2, math.MaxInt} {
		if view := impl.HeapView(impl.Heap{Calls: []impl.Call{{}}, Now: now}); len(view) != 0 {
			t.Errorf("%d: %v", now, view)
		}
	}
	if view := impl.HeapView(impl.Heap{}); len(view) != 0 {
		t.Errorf("%v", view)
	}
	odd := impl.Call{Method: -5, Pc: 99, Sender: 7, Dead: true}
	odd.Temps = vals(callVal(2), callVal(-3), impl.Val{Kind: 9, Num: 8}, impl.Val{Num: 6}, number(4000))
	odd.Stack = vals(callVal(math.MaxInt), callVal(0), callVal(1))
	want := impl.Call{Method: -5, Pc: 99, Sender: -1, Dead: true}
	want.Temps = vals(callVal(-1), callVal(-1), impl.Val{Kind: 9, Num: 8}, impl.Val{Num: 6}, number(4000))
	want.Stack = vals(callVal(-1), callVal(1), callVal(0))
	view := impl.HeapView(impl.Heap{Calls: []impl.Call{{Sender: -9}, odd}, Now: 1})
	if !sameCalls(view, []impl.Call{want, {Sender: -1}}) {
		t.Errorf("%v", view)
	}
	r := rand.New(rand.NewSource(5))
	for range 3000 {
		h := wildHeap(r)
		if got := impl.HeapView(h); !sameCalls(got, modelView(h)) {
			t.Fatalf("of %v\n%v, not\n%v", h, got, modelView(h))
		}
	}
}

// wildHeap is a heap that is seldom ok.
func wildHeap(r *rand.Rand) impl.Heap {
	h := impl.Heap{Calls: make([]impl.Call, r.Intn(6)), Now: r.Intn(8) - 1, Born: r.Intn(40) - 2, Code: r.Intn(6) - 1}
	wild := func() []impl.Val {
		var out []impl.Val
		for range r.Intn(4) {
			out = append(out, impl.Val{Kind: r.Intn(4), Num: r.Intn(8) - 1})
		}
		return out
	}
	for i := range h.Calls {
		h.Calls[i] = impl.Call{Method: r.Intn(3), Pc: r.Intn(3), Temps: wild(), Stack: wild(), Sender: r.Intn(9) - 2, Dead: r.Intn(5) == 0}
	}
	return h
}

// P19. HeapTrim is ok, seen the same, as deep; twice it is once.
func TestTrim(t *testing.T) {
	eachHeapAndOdd(func(p impl.Prog, h impl.Heap) {
		cut := trimHeap(t, p, h)
		want := impl.Heap{Calls: modelView(h), Born: h.Born, Said: h.Said, Code: h.Code}
		if h.Now == -1 {
			want.Now = -1
		}
		if !sameHeap(cut, want) || !impl.HeapOk(p, cut) {
			t.Fatalf("%q: of %v\n%v, not\n%v", impl.ProgText(p), h, cut, want)
		}
		if !sameCalls(impl.HeapView(cut), impl.HeapView(h)) || impl.HeapDeep(cut) != impl.HeapDeep(h) {
			t.Fatalf("%q: of %v\n%v", impl.ProgText(p), h, cut)
		}
		if again := trimHeap(t, p, cut); !sameHeap(again, cut) {
			t.Fatalf("%q: %v, then %v", impl.ProgText(p), cut, again)
		}
	})
}

// P20. Behind HeapTrim the same is said, and seen.
func TestBehindTrim(t *testing.T) {
	fewer := 0
	for i, x := range slices.Concat(heapTraces(), oddHeaps()) {
		for _, at := range []int{len(x.heaps) / 3, len(x.heaps) * 2 / 3} {
			h := x.heaps[at]
			cut := trimHeap(t, x.p, h)
			if len(cut.Calls) < len(h.Calls) {
				fewer++
			}
			for _, steps := range []int{0, 1, 2, 3 + i%20, 400} {
				a, b := runHeap(t, x.p, h, steps), runHeap(t, x.p, cut, steps)
				if !slices.Equal(a.Said, b.Said) || !sameCalls(impl.HeapView(a), impl.HeapView(b)) || a.Code != b.Code || a.Born != b.Born {
					t.Fatalf("%q: of %v after %d\n%v\n%v", impl.ProgText(x.p), h, steps, a, b)
				}
			}
		}
	}
	if fewer < 500 {
		t.Errorf("only %d have calls that cannot be come to", fewer)
	}
}

// P21. By Sender one comes from the first to one whom nobody called in as many calls as HeapDeep tells.
func TestHeapDeepByTheView(t *testing.T) {
	var seen [31]int
	eachHeapAndOdd(func(p impl.Prog, h impl.Heap) {
		view, deep := impl.HeapView(h), 0
		for at := 0; len(view) > 0 && at != -1; at = view[at].Sender {
			deep++
			if deep > len(view) {
				t.Fatalf("%q: %v has no end", impl.ProgText(p), view)
			}
		}
		if got := impl.HeapDeep(h); got != deep || got != len(waiting(h)) {
			t.Fatalf("%q: %d, not %d, of %v", impl.ProgText(p), got, deep, h)
		}
		seen[deep]++
	})
	for _, deep := range []int{0, 1, 2, 3, 29, 30} {
		if seen[deep] == 0 {
			t.Errorf("none is %d deep", deep)
		}
	}
}

// HeapDeep asks for no ok heap: 0, if there is no end, or one of them is Dead.
func TestHeapDeepOfAnyHeap(t *testing.T) {
	calls := func(senders ...int) []impl.Call {
		var out []impl.Call
		for _, sender := range senders {
			out = append(out, impl.Call{Sender: sender})
		}
		return out
	}
	for i, x := range []struct {
		calls []impl.Call
		now   int
		want  int
	}{
		{nil, 0, 0},
		{nil, -1, 0},
		{calls(-1), -1, 0},
		{calls(-1), 1, 0},
		{calls(-1), math.MinInt, 0},
		{calls(-1), math.MaxInt, 0},
		{calls(-1), 0, 1},
		{calls(0), 0, 0},
		{calls(1, 0), 0, 0},
		{calls(1, 2, 1), 0, 0},
		{calls(1, 2, 0), 2, 0},
		{calls(1, 2, -1), 0, 3},
		{calls(1, 2, -1), 1, 2},
		{calls(-1, 0, 1), 2, 3},
		{calls(5, 0), 1, 2},
		{calls(-7, 0), 1, 2},
		{calls(math.MaxInt, 0), 1, 2},
		{calls(math.MinInt), 0, 1},
	} {
		if got := impl.HeapDeep(impl.Heap{Calls: x.calls, Now: x.now}); got != x.want {
			t.Errorf("%d: %d, not %d", i, got, x.want)
		}
	}
	for dead := range 4 {
		h := impl.Heap{Calls: calls(1, 2, -1, -1)}
		h.Calls[dead].Dead = true
		if got := impl.HeapDeep(h); got != 0 && dead < 3 || got != 3 && dead == 3 {
			t.Errorf("%d is Dead: %d", dead, got)
		}
	}
	// More than HeapBorn may wait in a heap that is not ok.
	long := impl.Heap{Now: 999}
	for place := range 1000 {
		long.Calls = append(long.Calls, impl.Call{Sender: place - 1})
	}
	if got := impl.HeapDeep(long); got != 1000 || len(impl.HeapView(long)) != 1000 {
		t.Errorf("%d", got)
	}
	if long.Calls[0].Sender = 500; impl.HeapDeep(long) != 0 {
		t.Errorf("a ring is %d deep", impl.HeapDeep(long))
	}
}

// P47. HeapTrim keeps all that wait, and all but calls.
func TestTrimKeepsAllThatWait(t *testing.T) {
	dropped := 0
	eachHeapAndOdd(func(p impl.Prog, h impl.Heap) {
		cut := trimHeap(t, p, h)
		if cut.Born != h.Born || cut.Code != h.Code || !slices.Equal(cut.Said, h.Said) || (cut.Now == -1) != (h.Now == -1) || cut.Now > 0 {
			t.Fatalf("%q: of %v\n%v", impl.ProgText(p), h, cut)
		}
		was, is := waiting(h), waiting(cut)
		if len(was) != len(is) {
			t.Fatalf("%q: of %v\n%v", impl.ProgText(p), h, cut)
		}
		for i := range was {
			a, b := h.Calls[was[i]], cut.Calls[is[i]]
			if a.Method != b.Method || a.Pc != b.Pc || len(a.Temps) != len(b.Temps) || len(a.Stack) != len(b.Stack) || b.Dead {
				t.Fatalf("%q: %v, then %v", impl.ProgText(p), a, b)
			}
		}
		dropped += len(h.Calls) - len(cut.Calls)
	})
	if dropped < 500 {
		t.Errorf("only %d are left out", dropped)
	}
}

// Calls that one cannot come to any more are left out, at the end all of them.
func TestTrimLeavesOut(t *testing.T) {
	p := readProg(t, "method 0 1", "call 1", "drop", "call 1", "set 0", "num 0", "set 0", "num 5", "ret", "method 0 0", "here", "ret")
	for steps, want := range map[int]int{0: 1, 1: 2, 3: 2, 4: 1, 5: 2, 7: 2, 8: 2, 9: 2, 10: 1, 11: 1, 12: 0, 400: 0} {
		h := ranHeap(t, p, steps)
		if cut := trimHeap(t, p, h); len(cut.Calls) != want || cut.Born != h.Born {
			t.Errorf("after %d: %v of %v", steps, cut, h)
		}
	}
}

// listsOf is all lists of values that calls have.
func listsOf(calls []impl.Call) [][]impl.Val {
	var out [][]impl.Val
	for _, c := range calls {
		out = append(out, c.Temps, c.Stack)
	}
	return out
}

// checkOwn writes into each list of an answer, spare room included: no other one of them, and not the argument, may change by that.
func checkOwn(t *testing.T, name string, lists [][]impl.Val, argument func() bool) {
	t.Helper()
	var kept [][]impl.Val
	for _, list := range lists {
		kept = append(kept, slices.Clone(list))
	}
	for i, list := range lists {
		spare := list[:cap(list)]
		for j := range spare {
			spare[j] = impl.Val{Kind: 77, Num: i}
		}
		for k, other := range lists {
			if k > i && !slices.Equal(other, kept[k]) {
				t.Fatalf("%s: lists %d and %d are one", name, i, k)
			}
		}
	}
	if !argument() {
		t.Fatalf("%s: an argument is written into", name)
	}
}

// roomy is a heap the lists of which have spare room, with something in it.
func roomy(h impl.Heap) impl.Heap {
	more := func(list []impl.Val) []impl.Val {
		return append(slices.Clone(list), number(555), number(556), number(557))[:len(list)]
	}
	h = copyHeap(h)
	h.Said = more(h.Said)
	for i := range h.Calls {
		h.Calls[i].Temps, h.Calls[i].Stack = more(h.Calls[i].Temps), more(h.Calls[i].Stack)
	}
	h.Calls = append(h.Calls, impl.Call{Method: 555}, impl.Call{Method: 555})[:len(h.Calls)]
	return h
}

// roomKept says whether what is behind the ends of a roomy heap is as it was.
func roomKept(h impl.Heap) bool {
	for _, list := range append(listsOf(h.Calls), h.Said) {
		if !slices.Equal(list[len(list):len(list)+3], vals(number(555), number(556), number(557))) {
			return false
		}
	}
	size := len(h.Calls)
	return h.Calls[:size+2][size].Method == 555 && h.Calls[:size+2][size+1].Method == 555
}

// An answer is new memory, and shares none with an argument; an argument is not written into, nor behind its end.
func TestHeapAnswersAreNewMemory(t *testing.T) {
	for i, x := range slices.Concat(heapTraces(), oddHeaps()[:500]) {
		was := x.heaps[len(x.heaps)/2]
		h := roomy(was)
		p := copyProg(x.p)
		kept := func() bool { return sameHeap(h, was) && roomKept(h) && sameProg(p, x.p) }
		first, _ := impl.HeapNew(p)
		checkOwn(t, "HeapNew", append(listsOf(first.Calls), first.Said), kept)
		for _, steps := range []int{0, 1, i % 30} {
			out := runHeap(t, p, h, steps)
			checkOwn(t, "HeapRun", append(listsOf(out.Calls), out.Said), kept)
			for j := range out.Calls[:cap(out.Calls)] {
				out.Calls[:cap(out.Calls)][j] = impl.Call{Method: 88}
			}
			if !kept() {
				t.Fatal("HeapRun: an argument is written into")
			}
		}
		view := impl.HeapView(h)
		checkOwn(t, "HeapView", listsOf(view), kept)
		for j := range view[:cap(view)] {
			view[:cap(view)][j] = impl.Call{Method: 88}
		}
		cut := trimHeap(t, p, h)
		checkOwn(t, "HeapTrim", append(listsOf(cut.Calls), cut.Said), kept)
		impl.HeapOk(p, h)
		impl.HeapDeep(h)
		if !kept() {
			t.Fatal("an argument is written into")
		}
	}
}
