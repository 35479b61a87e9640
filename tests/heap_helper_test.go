package tests

import (
	"math/rand"
	"slices"
	"strings"
	"sync"
	"testing"

	"loop.example/gemel/impl"
)

var none = impl.Val{}

func number(n int) impl.Val {
	return impl.Val{Kind: 1, Num: n}
}

func callVal(place int) impl.Val {
	return impl.Val{Kind: 2, Num: place}
}

// readProg reads a program, each line of which is given.
func readProg(t *testing.T, lines ...string) impl.Prog {
	t.Helper()
	text := strings.Join(lines, "\n") + "\n"
	p, ok := impl.ProgRead(text)
	if !ok {
		t.Fatalf("%q is not read", text)
	}
	return p
}

func sameCall(a, b impl.Call) bool {
	return a.Method == b.Method && a.Pc == b.Pc && a.Sender == b.Sender && a.Dead == b.Dead &&
		slices.Equal(a.Temps, b.Temps) && slices.Equal(a.Stack, b.Stack)
}

func sameCalls(a, b []impl.Call) bool {
	return slices.EqualFunc(a, b, sameCall)
}

// sameHeap holds two heaps against each other; a nil list is an empty one.
func sameHeap(a, b impl.Heap) bool {
	return sameCalls(a.Calls, b.Calls) && a.Now == b.Now && a.Born == b.Born && a.Code == b.Code && slices.Equal(a.Said, b.Said)
}

func copyCalls(calls []impl.Call) []impl.Call {
	var out []impl.Call
	for _, c := range calls {
		c.Temps, c.Stack = slices.Clone(c.Temps), slices.Clone(c.Stack)
		out = append(out, c)
	}
	return out
}

func copyHeap(h impl.Heap) impl.Heap {
	h.Calls, h.Said = copyCalls(h.Calls), slices.Clone(h.Said)
	return h
}

func newHeap(t *testing.T, p impl.Prog) impl.Heap {
	t.Helper()
	h, ok := impl.HeapNew(p)
	if !ok {
		t.Fatalf("%q has no first call", impl.ProgText(p))
	}
	return h
}

func runHeap(t *testing.T, p impl.Prog, h impl.Heap, steps int) impl.Heap {
	t.Helper()
	out, ok := impl.HeapRun(p, h, steps)
	if !ok {
		t.Fatalf("%q: no %d operations of %v", impl.ProgText(p), steps, h)
	}
	return out
}

// ranHeap is a program's heap after so many operations.
func ranHeap(t *testing.T, p impl.Prog, steps int) impl.Heap {
	t.Helper()
	return runHeap(t, p, newHeap(t, p), steps)
}

// wants is, of each kind by its word, the kinds of the values that it takes: n a number, c a call, v whatever.
var wants = map[string]string{
	"set": "v", "drop": "v", "add": "nn", "same": "vv", "zero": "v", "ret": "v", "sender": "c", "peek": "c",
	"poke": "cv", "back": "cv", "say": "v", "dead": "c", "where": "c",
}

// modelTaken is the word and the A of the operation at pc, and what it takes, by the document's words; false, if it is stuck ahead of that.
func modelTaken(p impl.Prog, method, pc int, stack []impl.Val) (string, int, []impl.Val, bool) {
	ops := p.Methods[method].Ops
	if pc >= len(ops) {
		return "", 0, nil, false
	}
	op := ops[pc]
	word, takes := kindRows[op.Kind-1].word, rowTakes(p, op)
	rest := len(stack) - takes
	if rest < 0 || rest+kindRows[op.Kind-1].leaves > 6 {
		return "", 0, nil, false
	}
	taken := slices.Clone(stack[rest:])
	for i, want := range wants[word] {
		if want == 'n' && taken[i].Kind != 1 || want == 'c' && taken[i].Kind != 2 {
			return "", 0, nil, false
		}
	}
	return word, op.A, taken, true
}

// modelStep is a step by the document's words, in another way than the program's: heaps are copied, and kinds are told by their words.
func modelStep(p impl.Prog, h impl.Heap) impl.Heap {
	out := copyHeap(h)
	if h.Code != 0 {
		return out
	}
	now := &out.Calls[out.Now]
	word, a, taken, ok := modelTaken(p, now.Method, now.Pc, now.Stack)
	if !ok {
		out.Code = 2
		return out
	}
	now.Stack = now.Stack[:len(now.Stack)-len(taken)]
	now.Pc++
	switch {
	case word == "call" && out.Born == 30:
		out.Code = 3
	case word == "back" && out.Calls[taken[0].Num].Dead:
		out.Code = 2
	default:
		modelDo(p, &out, word, a, taken)
	}
	return out
}

// modelDo does an operation that nothing hinders.
func modelDo(p impl.Prog, h *impl.Heap, word string, a int, taken []impl.Val) {
	now := &h.Calls[h.Now]
	put := func(v impl.Val) { now.Stack = append(now.Stack, v) }
	var looked *impl.Call
	if strings.HasPrefix(wants[word], "c") {
		looked = &h.Calls[taken[0].Num]
	}
	switch word {
	case "num":
		put(number(a))
	case "temp":
		put(now.Temps[a])
	case "set":
		now.Temps[a] = taken[0]
	case "add":
		put(number((taken[0].Num + taken[1].Num) % 1000))
	case "same":
		put(map[bool]impl.Val{true: number(1), false: number(0)}[taken[0] == taken[1]])
	case "jump":
		now.Pc = a
	case "zero":
		if taken[0] == none || taken[0] == number(0) {
			now.Pc = a
		}
	case "call":
		temps := slices.Concat(taken, make([]impl.Val, p.Methods[a].Temps-len(taken)))
		h.Calls = append(h.Calls, impl.Call{Method: a, Temps: temps, Sender: h.Now})
		h.Now, h.Born = len(h.Calls)-1, h.Born+1
	case "here":
		put(callVal(h.Now))
	case "sender":
		if looked.Sender == -1 {
			put(none)
		} else {
			put(callVal(looked.Sender))
		}
	case "peek":
		put(append(slices.Clone(looked.Temps), none, none, none, none)[a])
	case "poke":
		if a < len(looked.Temps) {
			looked.Temps[a] = taken[1]
		}
	case "say":
		h.Said = append(h.Said, modelSaid(*h, taken[0]))
	case "dead":
		put(map[bool]impl.Val{true: number(1), false: number(0)}[looked.Dead])
	case "where":
		put(number(looked.Pc))
	case "ret", "back":
		modelLeave(h, word, taken)
	}
}

func modelSaid(h impl.Heap, v impl.Val) impl.Val {
	if v.Kind == 2 {
		return callVal(h.Calls[v.Num].Method)
	}
	return v
}

func modelLeave(h *impl.Heap, word string, taken []impl.Val) {
	to := h.Calls[h.Now].Sender
	if word == "back" {
		to = taken[0].Num
	}
	for h.Now != to {
		c := &h.Calls[h.Now]
		h.Now = c.Sender
		*c = impl.Call{Method: c.Method, Pc: c.Pc, Temps: c.Temps, Sender: -1, Dead: true}
	}
	v := taken[len(taken)-1]
	if to == -1 {
		h.Said, h.Code = append(h.Said, modelSaid(*h, v)), 1
		return
	}
	h.Calls[to].Stack = append(h.Calls[to].Stack, v)
}

// modelView is HeapView of any heap, found in another way: the list is begun anew whenever a call is added to it.
func modelView(h impl.Heap) []impl.Call {
	isCall := func(place int) bool { return 0 <= place && place < len(h.Calls) }
	if !isCall(h.Now) {
		return nil
	}
	list := []int{h.Now}
	for grown := true; grown; {
		grown = false
		for _, place := range list {
			c := h.Calls[place]
			told := []int{c.Sender}
			for _, v := range slices.Concat(c.Temps, c.Stack) {
				if v.Kind == 2 {
					told = append(told, v.Num)
				}
			}
			for _, next := range told {
				if isCall(next) && !slices.Contains(list, next) && !grown {
					list, grown = append(list, next), true
				}
			}
			if grown {
				break
			}
		}
	}
	var out []impl.Call
	for _, place := range list {
		c := copyCalls(h.Calls[place : place+1])[0]
		c.Sender = slices.Index(list, c.Sender)
		for _, vals := range [][]impl.Val{c.Temps, c.Stack} {
			for i, v := range vals {
				if v.Kind == 2 {
					vals[i].Num = slices.Index(list, v.Num)
				}
			}
		}
		out = append(out, c)
	}
	return out
}

// waiting is the places of the calls from the one that runs on by Sender; the heap is ok.
func waiting(h impl.Heap) []int {
	var out []int
	for at := h.Now; at != -1; at = h.Calls[at].Sender {
		out = append(out, at)
	}
	return out
}

// lookingProg is an ok program that calls, and looks at calls, a lot, mostly with values that are of their kinds.
func lookingProg(r *rand.Rand) impl.Prog {
	p := impl.Prog{Methods: make([]impl.Method, 1+r.Intn(4))}
	var gives [4]byte
	for i := range p.Methods {
		m := &p.Methods[i]
		if i > 0 {
			m.Args = r.Intn(3)
		}
		m.Temps = m.Args + r.Intn(5-m.Args)
		m.Ops = make([]impl.Op, 6+r.Intn(9))
		gives[i] = "nc"[r.Intn(2)]
	}
	for i := range p.Methods {
		fillMethod(r, p, i, gives)
	}
	return p
}

// fillMethod goes straight on through a method, and keeps the kinds of its values, as far as they can be known: first arguments are calls.
func fillMethod(r *rand.Rand, p impl.Prog, method int, gives [4]byte) {
	m, temps := p.Methods[method], []byte("----")
	for i := range m.Args {
		temps[i] = "cn"[i]
	}
	stack, depths := []byte{}, []int{}
	last := len(m.Ops) - 1
	for at := range m.Ops {
		depths = append(depths, len(stack))
		op := typedOp(r, p, method, stack)
		if at == last-1 && gives[method] == 'c' && len(stack) < 6 {
			op = impl.Op{Kind: impl.OpHere}
		}
		if at == last && r.Intn(30) > 0 {
			op = impl.Op{Kind: impl.OpRet}
		}
		m.Ops[at] = op
		stack = typedLeft(p, op, stack, temps, gives)
	}
	for at, op := range m.Ops {
		if op.Kind == impl.OpZero || op.Kind == impl.OpJump {
			m.Ops[at].A = placeAsDeep(r, depths, at, kindRows[op.Kind-1].takes)
		}
	}
}

// placeAsDeep is where as many values are as behind an operation, mostly further on.
func placeAsDeep(r *rand.Rand, depths []int, at int, takes int) int {
	for range 40 {
		to := r.Intn(len(depths))
		if depths[to] == depths[at]-takes && (to > at || r.Intn(20) == 0) {
			return to
		}
	}
	return min(at+1, len(depths)-1)
}

// typedOp mostly calls methods further on, so that many of them return.
func typedOp(r *rand.Rand, p impl.Prog, method int, stack []byte) impl.Op {
	for {
		row := kindRows[r.Intn(len(kindRows))]
		places := ownedBy(row, p, p.Methods[method])
		if places == 0 || row.word == "ret" || row.word == "jump" && r.Intn(4) > 0 {
			continue
		}
		op := impl.Op{Kind: row.kind, A: r.Intn(places)}
		if row.word == "call" && op.A <= method && r.Intn(20) > 0 {
			continue
		}
		if r.Intn(200) == 0 || typedFit(p, op, stack) {
			return op
		}
	}
}

func typedFit(p impl.Prog, op impl.Op, stack []byte) bool {
	row, takes := kindRows[op.Kind-1], rowTakes(p, op)
	if takes > len(stack) || len(stack)-takes+row.leaves > 6 {
		return false
	}
	want := wants[row.word]
	if row.word == "call" {
		want = "cn"[:takes]
	}
	for i, v := range stack[len(stack)-takes:] {
		if want[i] != 'v' && want[i] != v {
			return false
		}
	}
	return true
}

// typedLeft is the kinds of the values behind an operation; a minus stands for what is not known.
func typedLeft(p impl.Prog, op impl.Op, stack []byte, temps []byte, gives [4]byte) []byte {
	row, takes := kindRows[op.Kind-1], min(rowTakes(p, op), len(stack))
	taken, left := stack[len(stack)-takes:], byte('-')
	switch row.word {
	case "set":
		if takes == 1 {
			temps[op.A] = taken[0]
		}
	case "temp":
		left = temps[op.A]
	case "num", "add", "same", "dead", "where":
		left = 'n'
	case "here", "sender":
		left = 'c'
	case "call":
		left = gives[op.A]
	}
	out := slices.Clone(stack[:len(stack)-takes])
	if row.leaves == 1 {
		out = append(out, left)
	}
	return out
}

// heapTexts are programs that do what is seldom met by chance.
var heapTexts = []string{
	// One that calls itself till no more can be born, each looking at the one that called.
	"method 0 0\nhere\ncall 1\nret\nmethod 1 2\nhere\nset 1\ntemp 0\nsender\nsay\nhere\ncall 1\nret\n",
	// A call is kept when it has returned, looked at, set, and its caller asked for.
	"method 0 2\ncall 1\nset 0\ntemp 0\nnum 77\npoke 0\ntemp 0\npeek 0\nsay\ntemp 0\nwhere\nsay\ntemp 0\nret\nmethod 0 2\nnum 5\nset 0\nhere\nret\n",
	// Back over several calls, to the first one, again and again.
	"method 0 2\nhere\ncall 1\nset 1\ntemp 0\nzero 7\nnum 3\nret\nnum 1\nset 0\njump 0\nmethod 1 1\ntemp 0\ncall 2\nret\nmethod 1 1\ntemp 0\ncall 3\nret\nmethod 1 1\ntemp 0\nnum 9\nback\n",
	// One that calls itself till no more can be born, with a value below its argument.
	"method 0 0\nnum 2\ncall 1\nret\nmethod 1 1\nnum 8\ntemp 0\ncall 1\nadd\nret\n",
	// Back to one that has returned, with a value below.
	"method 0 1\nnum 7\ncall 1\nnum 4\nback\ndrop\nret\nmethod 0 0\nhere\nret\n",
	// Back to one that has returned.
	"method 0 1\ncall 1\nnum 4\nback\nret\nmethod 0 0\nhere\nret\n",
	// Back to the call that runs itself.
	"method 0 0\nhere\nnum 6\nback\nsay\nhere\nhere\nback\nret\n",
	// Calls that cannot be come to any more, and a ring of calls that look at one another.
	"method 0 3\ncall 1\ndrop\ncall 1\nset 0\ncall 1\nset 1\ntemp 0\ntemp 1\npoke 0\ntemp 1\ntemp 0\npoke 0\nnum 0\nmethod 0 1\nhere\nret\n",
	// One that does not end.
	"method 0 1\ntemp 0\nnum 99\nadd\nset 0\njump 0\n",
	"method 0 1\nnum 1\nset 0\ntemp 0\nnum 99\nadd\nset 0\njump 2\n",
}

// heapProgs are ok programs that run for a while, the same ones at each run.
func heapProgs() []impl.Prog {
	out := manyProgs()[:100]
	for _, text := range heapTexts {
		if p, ok := impl.ProgRead(text); ok {
			out = append(out, p)
		}
	}
	r := rand.New(rand.NewSource(3))
	for range 200 {
		out = append(out, likelyProg(r))
	}
	for range 1200 {
		out = append(out, lookingProg(r))
	}
	return out
}

// heapStepsSeen is how many operations of each program are looked at one by one.
const heapStepsSeen = 90

// trace is a program's heaps, operation by operation, till it does not run, or for long.
type trace struct {
	p     impl.Prog
	heaps []impl.Heap
}

// heapTrace is these heaps of one program.
func heapTrace(p impl.Prog) trace {
	h, _ := impl.HeapNew(p)
	heaps := []impl.Heap{h}
	for len(heaps) <= heapStepsSeen && h.Code == 0 {
		h, _ = impl.HeapStep(p, h)
		heaps = append(heaps, h)
	}
	return trace{p, heaps}
}

// heapTraces is made once, as it is gone through by many tests; none of them writes into it.
var heapTraces = sync.OnceValue(func() []trace {
	var out []trace
	for _, p := range heapProgs() {
		out = append(out, heapTrace(p))
	}
	return out
})

// eachHeap hands over all of these heaps, with the number of operations that were done.
func eachHeap(look func(p impl.Prog, h impl.Heap, steps int)) {
	for _, x := range heapTraces() {
		for steps, h := range x.heaps {
			look(x.p, h, steps)
		}
	}
}

// eachStep hands over each of these heaps and the next one.
func eachStep(look func(p impl.Prog, before, after impl.Heap)) {
	for _, x := range heapTraces() {
		for steps := range len(x.heaps) - 1 {
			look(x.p, x.heaps[steps], x.heaps[steps+1])
		}
	}
}

// opOf is the operation that is next in a heap that is ok, or was; of no Kind, if there is none.
func opOf(p impl.Prog, h impl.Heap) impl.Op {
	c := h.Calls[h.Now]
	if ops := p.Methods[c.Method].Ops; c.Pc < len(ops) {
		return ops[c.Pc]
	}
	return impl.Op{}
}

// randomHeap is an ok heap of a program that it did not come from: calls anywhere, who wait for one another in any order.
func randomHeap(r *rand.Rand, p impl.Prog) impl.Heap {
	size := 1 + r.Intn(8)
	h := impl.Heap{Calls: make([]impl.Call, size), Born: size + r.Intn(31-size)}
	if r.Intn(4) == 0 {
		h.Born = 30
	}
	chain := r.Perm(size)[:1+r.Intn(size)]
	h.Now = chain[0]
	for place := range h.Calls {
		h.Calls[place] = impl.Call{Sender: -1, Dead: true}
	}
	for i, place := range chain {
		h.Calls[place].Dead = false
		if i+1 < len(chain) {
			h.Calls[place].Sender = chain[i+1]
		}
	}
	for place := range h.Calls {
		fillCall(r, p, &h.Calls[place], size, place == h.Now)
	}
	for range r.Intn(3) {
		h.Said = append(h.Said, randomVal(r, len(p.Methods)))
	}
	if r.Intn(8) == 0 {
		h.Code = 2 + r.Intn(2)
	}
	return h
}

func fillCall(r *rand.Rand, p impl.Prog, c *impl.Call, calls int, runs bool) {
	c.Method = r.Intn(len(p.Methods))
	m := p.Methods[c.Method]
	c.Pc = r.Intn(len(m.Ops) + 1)
	for range m.Temps {
		c.Temps = append(c.Temps, randomVal(r, calls))
	}
	values := 0
	if runs {
		values = r.Intn(7)
	} else if !c.Dead {
		values = r.Intn(6)
	}
	for range values {
		c.Stack = append(c.Stack, randomVal(r, calls))
	}
}

func randomVal(r *rand.Rand, calls int) impl.Val {
	switch r.Intn(6) {
	case 0:
		return none
	case 1:
		return number(0)
	case 2:
		return number(r.Intn(1000))
	}
	return callVal(r.Intn(calls))
}

// oddHeaps are ok heaps that were not run to, each with its program.
var oddHeaps = sync.OnceValue(func() []trace {
	r := rand.New(rand.NewSource(4))
	var out []trace
	for range 4000 {
		p := randomProg(r)
		out = append(out, trace{p, []impl.Heap{randomHeap(r, p)}})
	}
	return out
})
