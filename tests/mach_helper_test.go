package tests

import (
	"math/rand"
	"slices"
	"strings"
	"sync"
	"testing"

	"loop.example/gemel/impl"
)

func sameFrame(a, b impl.Frame) bool {
	return a.Method == b.Method && a.Pc == b.Pc && a.Twin == b.Twin && slices.Equal(a.Temps, b.Temps) && slices.Equal(a.Stack, b.Stack)
}

func samePage(a, b impl.Page) bool {
	return a.Base == b.Base && slices.EqualFunc(a.Frames, b.Frames, sameFrame)
}

func sameTwin(a, b impl.Twin) bool {
	return a.Page == b.Page && a.At == b.At && sameCall(a.Left, b.Left)
}

// sameMach holds two machines against each other; a nil list is an empty one.
func sameMach(a, b impl.Mach) bool {
	return a.Cells == b.Cells && a.Now == b.Now && a.Born == b.Born && a.Code == b.Code && slices.Equal(a.Order, b.Order) &&
		slices.Equal(a.Said, b.Said) && slices.EqualFunc(a.Pages, b.Pages, samePage) && slices.EqualFunc(a.Twins, b.Twins, sameTwin)
}

func copyMach(m impl.Mach) impl.Mach {
	m.Order, m.Said, m.Pages, m.Twins = slices.Clone(m.Order), slices.Clone(m.Said), slices.Clone(m.Pages), slices.Clone(m.Twins)
	for i := range m.Pages {
		m.Pages[i].Frames = slices.Clone(m.Pages[i].Frames)
		for j := range m.Pages[i].Frames {
			f := &m.Pages[i].Frames[j]
			f.Temps, f.Stack = slices.Clone(f.Temps), slices.Clone(f.Stack)
		}
	}
	for i := range m.Twins {
		m.Twins[i].Left = copyCalls([]impl.Call{m.Twins[i].Left})[0]
	}
	return m
}

func newMach(t *testing.T, p impl.Prog, rooms, cells int) impl.Mach {
	t.Helper()
	m, ok := impl.MachNew(p, rooms, cells)
	if !ok {
		t.Fatalf("%q has no first frame on %d pages of %d cells", impl.ProgText(p), rooms, cells)
	}
	return m
}

func runMach(t *testing.T, p impl.Prog, m impl.Mach, steps int) impl.Mach {
	t.Helper()
	out, ok := impl.MachRun(p, m, steps)
	if !ok {
		t.Fatalf("%q: no %d operations of %v", impl.ProgText(p), steps, m)
	}
	return out
}

// ranMach is a program's machine after so many operations.
func ranMach(t *testing.T, p impl.Prog, rooms, cells, steps int) impl.Mach {
	t.Helper()
	return runMach(t, p, newMach(t, p, rooms, cells), steps)
}

func flushMach(t *testing.T, p impl.Prog, m impl.Mach, page int) impl.Mach {
	t.Helper()
	out, ok := impl.MachFlush(p, m, page)
	if !ok {
		t.Fatalf("%q: page %d of %v is not flushed", impl.ProgText(p), page, m)
	}
	return out
}

// sameAsHeap asks that on pages the same is said, and seen, as of the heap.
func sameAsHeap(t *testing.T, p impl.Prog, m impl.Mach, h impl.Heap) {
	t.Helper()
	if !slices.Equal(m.Said, h.Said) || m.Code != h.Code || m.Born != h.Born || (m.Now == -1) != (h.Now == -1) {
		t.Fatalf("%q: %v, not as %v", impl.ProgText(p), m, h)
	}
	if a, b := impl.MachView(m), impl.HeapView(h); !sameCalls(a, b) {
		t.Fatalf("%q: of %v\nseen %v\nnot  %v", impl.ProgText(p), m, a, b)
	}
	if impl.MachDeep(m) != impl.HeapDeep(h) {
		t.Fatalf("%q: %v is %d deep, not %d", impl.ProgText(p), m, impl.MachDeep(m), impl.HeapDeep(h))
	}
}

// modelTop is the last frame of the page that runs.
func modelTop(m *impl.Mach) *impl.Frame {
	frames := m.Pages[m.Now].Frames
	return &frames[len(frames)-1]
}

// modelTwin gives a frame a twin, if it has none.
func modelTwin(m *impl.Mach, page, at int) int {
	f := &m.Pages[page].Frames[at]
	if f.Twin == -1 {
		m.Twins = append(m.Twins, impl.Twin{Page: page, At: at})
		f.Twin = len(m.Twins) - 1
	}
	return f.Twin
}

// modelFlush is the document's words of flushing, done to a machine; it tells the twin of the frame that was the last.
func modelFlush(m *impl.Mach, page int) int {
	called := m.Pages[page].Base
	for at := range m.Pages[page].Frames {
		twin := modelTwin(m, page, at)
		f := m.Pages[page].Frames[at]
		m.Twins[twin] = impl.Twin{Page: -1, Left: impl.Call{Method: f.Method, Pc: f.Pc, Temps: f.Temps, Stack: f.Stack, Sender: called}}
		called = twin
	}
	m.Pages[page] = impl.Page{Base: -1}
	return called
}

// modelPut puts a twin that is on no page on one that has no frames.
func modelPut(m *impl.Mach, page, twin int) {
	c := m.Twins[twin].Left
	m.Pages[page] = impl.Page{Base: c.Sender, Frames: []impl.Frame{{Method: c.Method, Pc: c.Pc, Twin: twin, Temps: c.Temps, Stack: c.Stack}}}
	m.Twins[twin] = impl.Twin{Page: page}
}

func modelRuns(m *impl.Mach, page int) {
	m.Now = page
	m.Order = append(slices.DeleteFunc(m.Order, func(other int) bool { return other == page }), page)
}

func modelUsed(page impl.Page) int {
	used := 0
	for _, f := range page.Frames {
		used += 4 + len(f.Temps) + 6
	}
	return used
}

func modelEnter(m *impl.Mach, f impl.Frame) {
	if modelUsed(m.Pages[m.Now])+4+len(f.Temps)+6 > m.Cells {
		base := modelTwin(m, m.Now, len(m.Pages[m.Now].Frames)-1)
		first := slices.IndexFunc(m.Order, func(page int) bool { return len(m.Pages[page].Frames) == 0 })
		if first == -1 {
			first = 0
			modelFlush(m, m.Order[0])
		}
		page := m.Order[first]
		m.Pages[page].Base = base
		modelRuns(m, page)
	}
	m.Pages[m.Now].Frames = append(m.Pages[m.Now].Frames, f)
}

// modelReturn takes the last frame off the page that runs.
func modelReturn(m *impl.Mach) {
	page, f := &m.Pages[m.Now], *modelTop(m)
	page.Frames = page.Frames[:len(page.Frames)-1]
	if f.Twin != -1 {
		m.Twins[f.Twin] = impl.Twin{Page: -1, Left: impl.Call{Method: f.Method, Pc: f.Pc, Temps: f.Temps, Sender: -1, Dead: true}}
	}
	if len(page.Frames) > 0 {
		return
	}
	base := page.Base
	page.Base = -1
	switch {
	case base == -1:
		m.Now = -1
	case m.Twins[base].Page == -1:
		modelPut(m, m.Now, base)
	default:
		modelRuns(m, m.Twins[base].Page)
	}
}

// modelLooked is a twin's call: its parts may be written into, wherever they are.
func modelLooked(m *impl.Mach, twin int) (method, pc int, temps []impl.Val, dead bool) {
	if x := m.Twins[twin]; x.Page == -1 {
		return x.Left.Method, x.Left.Pc, x.Left.Temps, x.Left.Dead
	}
	f := m.Pages[m.Twins[twin].Page].Frames[m.Twins[twin].At]
	return f.Method, f.Pc, f.Temps, false
}

// modelSender is who called a twin's call, as a value.
func modelSender(m *impl.Mach, twin int) impl.Val {
	x := m.Twins[twin]
	called := x.Left.Sender
	if x.Page != -1 && x.At == 0 {
		called = m.Pages[x.Page].Base
	}
	if x.Page != -1 && x.At > 0 {
		called = modelTwin(m, x.Page, x.At-1)
	}
	if called == -1 {
		return none
	}
	return callVal(called)
}

// modelMachStep is a step on pages by the document's words; what is the same as of heaps is done to a heap of one call.
func modelMachStep(p impl.Prog, m impl.Mach) impl.Mach {
	out := copyMach(m)
	if m.Code != 0 {
		return out
	}
	now := modelTop(&out)
	word, a, taken, ok := modelTaken(p, now.Method, now.Pc, now.Stack)
	if !ok {
		out.Code = 2
		return out
	}
	now.Stack = now.Stack[:len(now.Stack)-len(taken)]
	now.Pc++
	switch word {
	case "call", "ret", "back":
		modelMachGo(p, &out, word, a, taken)
	case "here", "sender", "peek", "poke", "say", "dead", "where":
		modelMachLook(&out, word, a, taken)
	default:
		one := impl.Heap{Calls: []impl.Call{{Method: now.Method, Pc: now.Pc, Temps: now.Temps, Stack: now.Stack, Sender: -1}}}
		modelDo(p, &one, word, a, taken)
		now.Pc, now.Temps, now.Stack = one.Calls[0].Pc, one.Calls[0].Temps, one.Calls[0].Stack
	}
	return out
}

// modelMachGo does what lets another call run.
func modelMachGo(p impl.Prog, m *impl.Mach, word string, a int, taken []impl.Val) {
	switch word {
	case "call":
		if m.Born == 30 {
			m.Code = 3
			return
		}
		temps := slices.Concat(taken, make([]impl.Val, p.Methods[a].Temps-len(taken)))
		modelEnter(m, impl.Frame{Method: a, Twin: -1, Temps: temps})
		m.Born++
		return
	case "back":
		if _, _, _, dead := modelLooked(m, taken[0].Num); dead {
			m.Code = 2
			return
		}
		for modelTop(m).Twin != taken[0].Num {
			modelReturn(m)
		}
	case "ret":
		modelReturn(m)
	}
	v := taken[len(taken)-1]
	if m.Now == -1 {
		m.Code, m.Said = 1, append(m.Said, modelMachSaid(m, v))
		return
	}
	modelTop(m).Stack = append(modelTop(m).Stack, v)
}

func modelMachSaid(m *impl.Mach, v impl.Val) impl.Val {
	if v.Kind == 2 {
		v.Num, _, _, _ = modelLooked(m, v.Num)
	}
	return v
}

// modelMachLook does what looks at calls, or says them.
func modelMachLook(m *impl.Mach, word string, a int, taken []impl.Val) {
	var pc int
	var temps []impl.Val
	var dead bool
	if strings.HasPrefix(wants[word], "c") {
		_, pc, temps, dead = modelLooked(m, taken[0].Num)
	}
	left := none
	switch word {
	case "say":
		m.Said = append(m.Said, modelMachSaid(m, taken[0]))
		return
	case "poke":
		if a < len(temps) {
			temps[a] = taken[1]
		}
		return
	case "here":
		left = callVal(modelTwin(m, m.Now, len(m.Pages[m.Now].Frames)-1))
	case "sender":
		left = modelSender(m, taken[0].Num)
	case "peek":
		left = append(slices.Clone(temps), none, none, none, none)[a]
	case "dead":
		left = map[bool]impl.Val{true: number(1), false: number(0)}[dead]
	case "where":
		left = number(pc)
	}
	modelTop(m).Stack = append(modelTop(m).Stack, left)
}

// spot is where a call of a machine is: a frame, or a twin on no page, whose page is -1.
type spot struct{ page, at int }

// modelSpot is where a twin is, of any machine; false, if there is no such thing.
func modelSpot(m impl.Mach, twin int) (spot, bool) {
	if twin < 0 || twin >= len(m.Twins) {
		return spot{}, false
	}
	x := m.Twins[twin]
	if x.Page == -1 {
		return spot{-1, twin}, true
	}
	return spot{x.Page, x.At}, x.Page >= 0 && x.Page < len(m.Pages) && x.At >= 0 && x.At < len(m.Pages[x.Page].Frames)
}

// modelAllThere says whether each twin and each frame that a machine tells of, wherever it does, is there.
func modelAllThere(m impl.Mach) bool {
	var told []int
	tell := func(number int, lists ...[]impl.Val) {
		if number != -1 {
			told = append(told, number)
		}
		for _, v := range slices.Concat(lists...) {
			if v.Kind == 2 {
				told = append(told, v.Num)
			}
		}
	}
	for _, page := range m.Pages {
		tell(page.Base)
		for _, f := range page.Frames {
			tell(f.Twin, f.Temps, f.Stack)
		}
	}
	for number, x := range m.Twins {
		told = append(told, number)
		if x.Page == -1 {
			tell(x.Left.Sender, x.Left.Temps, x.Left.Stack)
		}
	}
	return !slices.ContainsFunc(told, func(number int) bool {
		_, ok := modelSpot(m, number)
		return !ok
	})
}

// modelBorn is how many were born at least: all frames, and all twins on no page.
func modelBorn(m impl.Mach) int {
	calls := 0
	for _, page := range m.Pages {
		calls += len(page.Frames)
	}
	for _, x := range m.Twins {
		calls = counted(calls, x.Page == -1)
	}
	return calls
}

// modelCall is the call at a spot, and where the one is that called it: nowhere, if nobody did; false, if that is not there.
func modelCall(m impl.Mach, s spot) (impl.Call, []spot, bool) {
	var c impl.Call
	if s.page == -1 {
		c = m.Twins[s.at].Left
	} else {
		page := m.Pages[s.page]
		f := page.Frames[s.at]
		c = impl.Call{Method: f.Method, Pc: f.Pc, Temps: f.Temps, Stack: f.Stack, Sender: page.Base}
		if s.at > 0 {
			return copyCalls([]impl.Call{c})[0], []spot{{s.page, s.at - 1}}, true
		}
	}
	c = copyCalls([]impl.Call{c})[0]
	if c.Sender == -1 {
		return c, nil, true
	}
	by, ok := modelSpot(m, c.Sender)
	return c, []spot{by}, ok
}

// modelMachView is MachView of any machine, found in another way: calls are told by where they are.
func modelMachView(m impl.Mach) []impl.Call {
	if !modelAllThere(m) || m.Now < 0 || m.Now >= len(m.Pages) || len(m.Pages[m.Now].Frames) == 0 {
		return nil
	}
	list := []spot{{m.Now, len(m.Pages[m.Now].Frames) - 1}}
	var out []impl.Call
	numberOf := func(s spot) int {
		if !slices.Contains(list, s) {
			list = append(list, s)
		}
		return slices.Index(list, s)
	}
	for next := 0; next < len(list); next++ {
		c, by, ok := modelCall(m, list[next])
		if !ok {
			return nil
		}
		c.Sender = -1
		if len(by) == 1 {
			c.Sender = numberOf(by[0])
		}
		for _, vals := range [][]impl.Val{c.Temps, c.Stack} {
			for i, v := range vals {
				if v.Kind != 2 {
					continue
				}
				at, ok := modelSpot(m, v.Num)
				if !ok {
					return nil
				}
				vals[i].Num = numberOf(at)
			}
		}
		out = append(out, c)
	}
	return out
}

// modelMachDeep is MachDeep of any machine.
func modelMachDeep(m impl.Mach) int {
	if !modelAllThere(m) || m.Now < 0 || m.Now >= len(m.Pages) || len(m.Pages[m.Now].Frames) == 0 {
		return 0
	}
	at := spot{m.Now, len(m.Pages[m.Now].Frames) - 1}
	for deep := 1; deep <= 30; deep++ {
		c, by, ok := modelCall(m, at)
		if !ok || c.Dead {
			return 0
		}
		if len(by) == 0 {
			return deep
		}
		at = by[0]
	}
	return 0
}

// machTexts are programs that call deeply, and look at, and go back over, many calls.
var machTexts = []string{
	// Eight calls of one method, the last of which goes back to who began.
	"method 0 1\nhere\nnum 0\ncall 1\nsay\nnum 5\nret\nmethod 2 2\ntemp 1\nnum 7\nsame\nzero 7\ntemp 0\nnum 77\nback\ntemp 0\ntemp 1\nnum 1\nadd\ncall 1\nret\n",
	// Calls of one method that nobody looks at, which return one by one.
	"method 0 0\nnum 0\ncall 1\nret\nmethod 1 3\ntemp 0\nnum 6\nsame\nzero 6\nnum 0\nret\ntemp 0\nnum 1\nadd\ncall 1\nnum 1\nadd\nret\n",
	// Each looks at who called the one that called it, and sets its temps; it does not end.
	"method 0 2\ncall 1\nret\nmethod 0 2\nhere\nsender\nset 0\ntemp 0\nsender\nset 1\ntemp 1\nzero 11\ntemp 1\ntemp 0\npoke 0\ncall 1\nret\n",
	// Calls that return one by one, each of them said.
	"method 0 1\ncall 1\nsay\nhere\nret\nmethod 0 1\ncall 2\nsay\nhere\nret\nmethod 0 3\ncall 3\nsay\nhere\nret\nmethod 0 4\nhere\nsender\nsender\nsender\ndead\nret\n",
	// Back to one in the middle, over two and more, twice.
	"method 0 2\ncall 1\nret\nmethod 0 3\nhere\ncall 2\nsay\ntemp 0\nzero 7\nnum 3\nret\nnum 1\nset 0\njump 0\nmethod 1 4\ntemp 0\ncall 3\nret\nmethod 1 1\ntemp 0\nnum 4\nback\n",
	// One that is called anew by each of many that wait, and asked, when it has returned, by one further on.
	"method 0 2\nhere\ncall 1\nret\nmethod 1 3\ncall 2\nset 1\ntemp 1\ndead\nset 2\ntemp 1\nsender\nset 2\ntemp 1\nwhere\ndrop\nhere\ncall 1\nret\nmethod 0 2\nhere\nset 0\nhere\nret\n",
}

// machShape is how many pages there are, of how many cells.
type machShape struct{ rooms, cells int }

// machTrace is a program's machines, operation by operation, and its heaps after as many.
type machTrace struct {
	p     impl.Prog
	shape machShape
	machs []impl.Mach
	heaps []impl.Heap
}

// shapesOf are some of all shapes, others for each number.
func shapesOf(r *rand.Rand, i int) []machShape {
	tight := []machShape{{1, 14}, {2, 14}, {1, 20}, {2, 24}, {3, 14}, {1, 60}, {4, 15}, {3, 30}, {4, 60}, {2, 28}}
	return []machShape{tight[i%len(tight)], {1 + r.Intn(4), 14 + r.Intn(47)}, {1 + r.Intn(3), 14 + r.Intn(16)}}
}

// machTraces is made once, as it is gone through by many tests; none of them writes into it.
var machTraces = sync.OnceValue(func() []machTrace {
	var out []machTrace
	r := rand.New(rand.NewSource(6))
	traces := heapTraces()
	for _, text := range machTexts {
		p, _ := impl.ProgRead(text)
		traces = append(slices.Clip(traces), heapTrace(p))
	}
	for i, x := range traces {
		shapes := shapesOf(r, i)
		if i >= len(traces)-len(machTexts)-len(heapTexts) {
			shapes = append(shapes, shapesOf(r, i+3)...)
		}
		for _, shape := range shapes {
			m, _ := impl.MachNew(x.p, shape.rooms, shape.cells)
			machs := []impl.Mach{m}
			for range len(x.heaps) - 1 {
				m, _ = impl.MachStep(x.p, m)
				machs = append(machs, m)
			}
			out = append(out, machTrace{x.p, shape, machs, x.heaps})
		}
	}
	return out
})

// eachMach hands over all of these machines, with the number of operations that were done.
func eachMach(look func(p impl.Prog, m impl.Mach, steps int)) {
	for _, x := range machTraces() {
		for steps, m := range x.machs {
			look(x.p, m, steps)
		}
	}
}

// oddMach is an ok machine that was not run to, its program, and the heap that it is to be seen as.
type oddMach struct {
	p impl.Prog
	h impl.Heap
	m impl.Mach
}

var oddMachs = sync.OnceValue(func() []oddMach {
	r := rand.New(rand.NewSource(7))
	var out []oddMach
	for range 6000 {
		p := lookingProg(r)
		if r.Intn(3) == 0 {
			p = randomProg(r)
		}
		h := randomHeap(r, p)
		out = append(out, oddMach{p, h, layOut(r, p, h)})
	}
	return out
})

// eachMachAndOdd hands over both machines that programs run to and others.
func eachMachAndOdd(look func(p impl.Prog, m impl.Mach)) {
	eachMach(func(p impl.Prog, m impl.Mach, _ int) { look(p, m) })
	for _, x := range oddMachs() {
		look(x.p, x.m)
	}
}

// layOut is a machine whose calls are those of a heap, on pages, and off them, anyhow.
func layOut(r *rand.Rand, p impl.Prog, h impl.Heap) impl.Mach {
	rooms := 1 + r.Intn(4)
	m := impl.Mach{Cells: 14 + r.Intn(47), Pages: make([]impl.Page, rooms), Born: h.Born, Said: slices.Clone(h.Said), Code: h.Code}
	chain := waiting(h)
	slices.Reverse(chain)
	where := pagesOfChain(r, p, h, m.Cells, r.Perm(rooms), chain)
	twins := twinsOfCalls(r, h, chain, where)
	renumbered := func(vals []impl.Val) []impl.Val {
		out := slices.Clone(vals)
		for i, v := range out {
			if v.Kind == 2 {
				out[i].Num = twins[v.Num]
			}
		}
		return out
	}
	m.Twins = make([]impl.Twin, slices.Max(twins)+1)
	for page := range m.Pages {
		m.Pages[page].Base = -1
	}
	waits := func(place int) bool { return !h.Calls[place].Dead }
	for _, place := range append(chain, slices.DeleteFunc(r.Perm(len(h.Calls)), waits)...) {
		c, twin := h.Calls[place], twins[place]
		c.Temps, c.Stack = renumbered(c.Temps), renumbered(c.Stack)
		if c.Sender != -1 {
			c.Sender = twins[c.Sender]
		}
		if where[place] == -1 {
			m.Twins[twin] = impl.Twin{Page: -1, Left: c}
			continue
		}
		page := &m.Pages[where[place]]
		if len(page.Frames) == 0 {
			page.Base = c.Sender
		}
		if twin != -1 {
			m.Twins[twin] = impl.Twin{Page: where[place], At: len(page.Frames)}
		}
		page.Frames = append(page.Frames, impl.Frame{Method: c.Method, Pc: c.Pc, Twin: twin, Temps: c.Temps, Stack: c.Stack})
	}
	m.Now = where[h.Now]
	m.Order = append(slices.DeleteFunc(r.Perm(rooms), func(page int) bool { return page == m.Now }), m.Now)
	return m
}

// pagesOfChain is, of each call, the page it is on, or -1; the chain begins with one whom nobody called, and ends with one on a page.
func pagesOfChain(r *rand.Rand, p impl.Prog, h impl.Heap, cells int, unused []int, chain []int) []int {
	where := slices.Repeat([]int{-1}, len(h.Calls))
	size := func(place int) int { return 10 + p.Methods[h.Calls[place].Method].Temps }
	page, left, stay := -1, 0, false
	for i, place := range chain {
		rest := 0
		for _, next := range chain[i:] {
			rest += size(next)
		}
		last := i == len(chain)-1
		switch {
		case page != -1 && left >= size(place) && (stay || r.Intn(3) > 0):
		case len(unused) > 1 && (last || r.Intn(2) == 0), len(unused) == 1 && (last || rest <= cells && r.Intn(2) == 0):
			// The last page must do for all that are left.
			stay = len(unused) == 1
			page, left, unused = unused[0], cells, unused[1:]
		default:
			page = -1
		}
		where[place] = page
		left -= size(place)
	}
	return where
}

// twinsOfCalls is, of each call, its number as a twin, or -1: those on no page, those told by a value or from another page, and some more.
func twinsOfCalls(r *rand.Rand, h impl.Heap, chain []int, where []int) []int {
	must := make([]bool, len(h.Calls))
	for place, c := range h.Calls {
		if where[place] == -1 || r.Intn(3) == 0 {
			must[place] = true
		}
		for _, v := range slices.Concat(c.Temps, c.Stack) {
			if v.Kind == 2 {
				must[v.Num] = true
			}
		}
	}
	for i := range len(chain) - 1 {
		if where[chain[i]] != where[chain[i+1]] {
			must[chain[i]] = true
		}
	}
	twins, next := slices.Repeat([]int{-1}, len(h.Calls)), 0
	for _, place := range r.Perm(len(h.Calls)) {
		if must[place] {
			twins[place], next = next, next+1
		}
	}
	return twins
}
