package tests

import (
	"math"
	"math/rand"
	"slices"
	"testing"

	"loop.example/gemel/impl"
)

// P54. Flushed it is ok, seen the same, as deep; only the call that runs is on the page. (THE SAME.)
func TestFlushed(t *testing.T) {
	several, empty, runs := 0, 0, 0
	eachMachAndOdd(func(p impl.Prog, m impl.Mach) {
		for page := range m.Pages {
			out := flushMach(t, p, m, page)
			if !impl.MachOk(p, out) || !sameCalls(impl.MachView(out), impl.MachView(m)) || impl.MachDeep(out) != impl.MachDeep(m) {
				t.Fatalf("%q: of %v\n%v", impl.ProgText(p), m, out)
			}
			want, left, size := copyMach(m), 0, len(m.Pages[page].Frames)
			if last := modelFlush(&want, page); page == m.Now {
				modelPut(&want, page, last)
				left = 1
			}
			if !sameMach(out, want) || len(out.Pages[page].Frames) != left {
				t.Fatalf("%q: page %d of %v\n%v, not\n%v", impl.ProgText(p), page, m, out, want)
			}
			several, empty, runs = counted(several, size > 2), counted(empty, size == 0), counted(runs, left == 1 && size > 1)
		}
	})
	if several < 500 || empty < 500 || runs < 500 {
		t.Errorf("%d, %d, %d", several, empty, runs)
	}
}

func counted(n int, one bool) int {
	if one {
		return n + 1
	}
	return n
}

// P55. Flushed twice it is as flushed once.
func TestFlushedTwice(t *testing.T) {
	eachMachAndOdd(func(p impl.Prog, m impl.Mach) {
		for page := range m.Pages {
			once := flushMach(t, p, m, page)
			if twice := flushMach(t, p, once, page); !sameMach(once, twice) {
				t.Fatalf("%q: page %d of %v\n%v, then\n%v", impl.ProgText(p), page, m, once, twice)
			}
			if len(m.Pages[page].Frames) == 0 && !sameMach(once, m) {
				t.Fatalf("%q: %v changed to %v", impl.ProgText(p), m, once)
			}
		}
	})
}

// P64. If each page is flushed one frame is left at most.
func TestEachPageFlushed(t *testing.T) {
	eachMachAndOdd(func(p impl.Prog, m impl.Mach) {
		out := m
		for page := range m.Pages {
			out = flushMach(t, p, out, page)
		}
		want := 1
		if m.Now == -1 {
			want = 0
		}
		if impl.MachFrames(out) != want || impl.MachTwins(out) != want || !impl.MachOk(p, out) || out.Now != m.Now {
			t.Fatalf("%q: of %v\n%v", impl.ProgText(p), m, out)
		}
	})
}

// A page that is none, and a machine that is not ok, are not flushed.
func TestFlushOfWhatIsNotThere(t *testing.T) {
	p := readProg(t, "method 0 0", "call 0", "ret")
	for rooms := 1; rooms <= 4; rooms++ {
		m := ranMach(t, p, rooms, 20, 5)
		for _, page := range []int{math.MinInt, -2, -1, rooms, rooms + 1, math.MaxInt} {
			if out, ok := impl.MachFlush(p, m, page); ok || !sameMach(out, impl.Mach{}) {
				t.Errorf("page %d of %d: %v, %v", page, rooms, out, ok)
			}
		}
		for page := range rooms {
			bad := copyMach(m)
			bad.Born = 31
			if out, ok := impl.MachFlush(p, bad, page); ok || !sameMach(out, impl.Mach{}) {
				t.Errorf("%v, %v", out, ok)
			}
		}
	}
	// Nothing is left at the end, and so nothing changes.
	done := readProg(t, "method 0 0", "here", "drop", "num 1", "ret")
	end := ranMach(t, done, 2, 20, 4)
	for page := range 2 {
		if out := flushMach(t, done, end, page); end.Code != 1 || !sameMach(out, end) {
			t.Errorf("%v, then %v", end, out)
		}
	}
}

// P56. MachView is a HeapView.
func TestMachViewIsAHeapView(t *testing.T) {
	dead := 0
	eachMachAndOdd(func(p impl.Prog, m impl.Mach) {
		view := impl.MachView(m)
		if !sameCalls(view, modelMachView(m)) {
			t.Fatalf("%q: of %v\n%v, not\n%v", impl.ProgText(p), m, view, modelMachView(m))
		}
		if again := impl.HeapView(impl.Heap{Calls: view}); !sameCalls(again, view) {
			t.Fatalf("%q: %v, then %v", impl.ProgText(p), view, again)
		}
		if (m.Now == -1) != (len(view) == 0) || len(view) > m.Born {
			t.Fatalf("%q: of %v\n%v", impl.ProgText(p), m, view)
		}
		if m.Now != -1 && (view[0].Method != modelTop(&m).Method || view[0].Pc != modelTop(&m).Pc) {
			t.Fatalf("%q: of %v\n%v", impl.ProgText(p), m, view)
		}
		dead = counted(dead, slices.ContainsFunc(view, func(c impl.Call) bool { return c.Dead }))
	})
	if dead < 500 {
		t.Errorf("only %d", dead)
	}
}

// P57. By Sender one comes from the first to one whom nobody called in as many calls as MachDeep tells.
func TestMachDeepByTheView(t *testing.T) {
	eachMachAndOdd(func(p impl.Prog, m impl.Mach) {
		view, deep := impl.MachView(m), 0
		for at := 0; len(view) > 0 && at != -1 && deep <= len(view); at = view[at].Sender {
			deep++
		}
		if got := impl.MachDeep(m); got != deep || got != modelMachDeep(m) {
			t.Fatalf("%q: %d, not %d, of %v", impl.ProgText(p), got, deep, m)
		}
	})
}

// threeFrames is a machine of three frames on two pages, the upper page's Base being a twin on the other one, and a Dead twin.
func threeFrames() impl.Mach {
	return impl.Mach{
		Cells: 30,
		Pages: []impl.Page{
			{Base: 0, Frames: []impl.Frame{{Method: 2, Twin: -1, Temps: vals(callVal(1), number(3)), Stack: vals(callVal(0))}}},
			{Base: -1, Frames: []impl.Frame{{Method: 0, Twin: -1}, {Method: 1, Twin: 0, Stack: vals(number(8))}}},
		},
		Order: []int{1, 0},
		Twins: []impl.Twin{{Page: 1, At: 1}, {Page: -1, Left: impl.Call{Method: 3, Pc: 1, Temps: vals(callVal(1)), Sender: -1, Dead: true}}},
		Born:  4,
	}
}

func TestViewOfFramesAndTwins(t *testing.T) {
	want := []impl.Call{
		{Method: 2, Temps: vals(callVal(2), number(3)), Stack: vals(callVal(1)), Sender: 1},
		{Method: 1, Stack: vals(number(8)), Sender: 3},
		{Method: 3, Pc: 1, Temps: vals(callVal(2)), Sender: -1, Dead: true},
		{Method: 0, Sender: -1},
	}
	if view := impl.MachView(threeFrames()); !sameCalls(view, want) || impl.MachDeep(threeFrames()) != 3 {
		t.Errorf("%v", view)
	}
}

// nothingSeen asks that of a machine nothing is seen, and none waits.
func nothingSeen(t *testing.T, name string, m impl.Mach) {
	t.Helper()
	if view, deep := impl.MachView(m), impl.MachDeep(m); len(view) != 0 || deep != 0 {
		t.Errorf("%s: %v, %d", name, view, deep)
	}
}

// P56, P57. Neither asks for an ok machine: if something that they are told of is not there nothing is seen, and none waits.
func TestViewAndDeepOfWhatIsNotThere(t *testing.T) {
	for name, change := range map[string]func(m *impl.Mach){
		"Now is none":                func(m *impl.Mach) { m.Now = -1 },
		"Now below":                  func(m *impl.Mach) { m.Now = -2 },
		"Now past the end":           func(m *impl.Mach) { m.Now = 2 },
		"Now far off":                func(m *impl.Mach) { m.Now = math.MaxInt },
		"Now has no frames":          func(m *impl.Mach) { m.Pages[0].Frames = nil },
		"no pages":                   func(m *impl.Mach) { m.Pages = nil },
		"no twins":                   func(m *impl.Mach) { m.Twins = nil },
		"a Base past the end":        func(m *impl.Mach) { m.Pages[0].Base = 2 },
		"a Base below":               func(m *impl.Mach) { m.Pages[0].Base = -2 },
		"a Base far off":             func(m *impl.Mach) { m.Pages[1].Base = math.MaxInt },
		"a Base further on":          func(m *impl.Mach) { m.Pages[1].Base = math.MinInt },
		"a twin on no such page":     func(m *impl.Mach) { m.Twins[0].Page = 2 },
		"a twin on a page below":     func(m *impl.Mach) { m.Twins[0].Page = -2 },
		"a twin at no frame":         func(m *impl.Mach) { m.Twins[0].At = 2 },
		"a twin at a frame below":    func(m *impl.Mach) { m.Twins[0].At = -1 },
		"a twin at a frame far off":  func(m *impl.Mach) { m.Twins[0].At = math.MaxInt },
		"who called a twin":          func(m *impl.Mach) { m.Pages[1].Base, m.Twins[1].Left.Sender, m.Twins[1].Left.Dead = 1, 2, false },
		"who called a twin, below":   func(m *impl.Mach) { m.Pages[1].Base, m.Twins[1].Left.Sender, m.Twins[1].Left.Dead = 1, -2, false },
		"who called a Dead twin":     func(m *impl.Mach) { m.Twins[1].Left.Sender = 7 },
		"a temp":                     func(m *impl.Mach) { m.Pages[0].Frames[0].Temps[1] = callVal(2) },
		"a temp below":               func(m *impl.Mach) { m.Pages[0].Frames[0].Temps[1] = callVal(-1) },
		"a value":                    func(m *impl.Mach) { m.Pages[1].Frames[1].Stack[0] = callVal(math.MaxInt) },
		"a value of the lowest":      func(m *impl.Mach) { m.Pages[1].Frames[0].Stack = vals(none, callVal(2)) },
		"a temp of a twin":           func(m *impl.Mach) { m.Twins[1].Left.Temps[0] = callVal(5) },
		"a value of a twin":          func(m *impl.Mach) { m.Twins[1].Left.Stack = vals(callVal(math.MinInt)) },
		"a value tells no such page": func(m *impl.Mach) { m.Twins[1] = impl.Twin{Page: 4} },
	} {
		m := threeFrames()
		change(&m)
		nothingSeen(t, name, m)
	}
	nothingSeen(t, "of nothing", impl.Mach{})
}

// aside is threeFrames, with what one does not come to: a page of two frames, one without, and two twins, one of them on that page.
func aside() impl.Mach {
	m := threeFrames()
	m.Pages = append(m.Pages,
		impl.Page{Base: 3, Frames: []impl.Frame{{Method: 1, Twin: 2, Temps: vals(callVal(0)), Stack: vals(callVal(3))}, {Method: 2, Twin: -1}}},
		impl.Page{Base: -1})
	m.Twins = append(m.Twins, impl.Twin{Page: 2}, impl.Twin{Page: -1, Left: impl.Call{Method: 1, Temps: vals(callVal(2)), Stack: vals(callVal(1)), Sender: 2}})
	return m
}

// What is told of has to be there though one does not come to it.
func TestViewAndDeepOfWhatIsNotThereAside(t *testing.T) {
	if view := impl.MachView(aside()); !sameCalls(view, impl.MachView(threeFrames())) || impl.MachDeep(aside()) != 3 {
		t.Fatalf("%v", view)
	}
	for _, place := range []int{math.MinInt, -2, 4, 5, math.MaxInt} {
		for name, change := range map[string]func(m *impl.Mach){
			"the twin of the frame that runs": func(m *impl.Mach) { m.Pages[0].Frames[0].Twin = place },
			"the twin of one that waits":      func(m *impl.Mach) { m.Pages[1].Frames[0].Twin = place },
			"the twin of one aside":           func(m *impl.Mach) { m.Pages[2].Frames[1].Twin = place },
			"a temp of one aside":             func(m *impl.Mach) { m.Pages[2].Frames[0].Temps[0] = callVal(place) },
			"a value of one aside":            func(m *impl.Mach) { m.Pages[2].Frames[0].Stack[0] = callVal(place) },
			"a Base aside":                    func(m *impl.Mach) { m.Pages[2].Base = place },
			"a Base without frames":           func(m *impl.Mach) { m.Pages[3].Base = place },
			"the page of a twin":              func(m *impl.Mach) { m.Twins[2].Page = place },
			"the frame of a twin":             func(m *impl.Mach) { m.Twins[2].At = place },
			"who called a twin":               func(m *impl.Mach) { m.Twins[3].Left.Sender = place },
			"a temp of a twin":                func(m *impl.Mach) { m.Twins[3].Left.Temps[0] = callVal(place) },
			"a value of a twin":               func(m *impl.Mach) { m.Twins[3].Left.Stack[0] = callVal(place) },
		} {
			m := aside()
			change(&m)
			nothingSeen(t, name, m)
		}
	}
	for name, change := range map[string]func(m *impl.Mach){
		"a frame of a page without frames": func(m *impl.Mach) { m.Twins[2].Page = 3 },
		"a frame below all":                func(m *impl.Mach) { m.Twins[2].At = -1 },
		"a frame behind the end":           func(m *impl.Mach) { m.Twins[2].At = 2 },
		"a call that is nobody, a temp":    func(m *impl.Mach) { m.Twins[3].Left.Temps[0] = callVal(-1) },
		"a call that is nobody, a value":   func(m *impl.Mach) { m.Pages[2].Frames[0].Stack[0] = callVal(-1) },
	} {
		m := aside()
		change(&m)
		nothingSeen(t, name, m)
	}
}

// What is there is enough, ok or not: a frame and a twin need not tell one another, nor Order, nor Said, be in form.
func TestViewDoesNotAskForWhatIsNotTold(t *testing.T) {
	want := impl.MachView(threeFrames())
	for name, change := range map[string]func(m *impl.Mach){
		"another frame's twin":   func(m *impl.Mach) { m.Pages[1].Frames[0].Twin = 0 },
		"a twin on no page":      func(m *impl.Mach) { m.Pages[0].Frames[0].Twin = 1 },
		"a frame without a twin": func(m *impl.Mach) { m.Pages[1].Frames[1].Twin = -1 },
		"a frame with two":       func(m *impl.Mach) { m.Twins = append(m.Twins, impl.Twin{Page: 1, At: 1}) },
		"no page, and a frame":   func(m *impl.Mach) { m.Twins[1].At = 9 },
		"a page, and a call left": func(m *impl.Mach) {
			m.Twins[0].Left = impl.Call{Sender: 9, Temps: vals(callVal(9)), Stack: vals(callVal(-1))}
		},
		"a Base without frames": func(m *impl.Mach) { m.Pages = append(m.Pages, impl.Page{Base: 1}) },
		"Order":                 func(m *impl.Mach) { m.Order = []int{9, -9} },
		"no Order":              func(m *impl.Mach) { m.Order = nil },
		"Said":                  func(m *impl.Mach) { m.Said = vals(callVal(9), callVal(-9)) },
		"Cells, Born and Code":  func(m *impl.Mach) { m.Cells, m.Born, m.Code = -9, -9, 9 },
	} {
		m := threeFrames()
		change(&m)
		if view := impl.MachView(m); !sameCalls(view, want) || impl.MachDeep(m) != 3 {
			t.Errorf("%s: %v, not %v", name, view, want)
		}
	}
	m := threeFrames()
	m.Pages[1].Frames[0].Temps = vals(impl.Val{Kind: 3, Num: 9}, impl.Val{Num: 9}, number(5000))
	want[3].Temps = m.Pages[1].Frames[0].Temps
	if view := impl.MachView(m); !sameCalls(view, want) {
		t.Errorf("%v, not %v", view, want)
	}
}

func TestMachDeepOfAnyMachine(t *testing.T) {
	m := threeFrames()
	if m.Pages[1].Base = 1; impl.MachDeep(m) != 0 {
		t.Errorf("by a Dead one: %d", impl.MachDeep(m))
	}
	if m.Twins[1].Left.Dead = false; impl.MachDeep(m) != 4 {
		t.Errorf("by a twin: %d", impl.MachDeep(m))
	}
	if m.Twins[1].Left.Sender = 1; impl.MachDeep(m) != 0 {
		t.Errorf("by itself: %d", impl.MachDeep(m))
	}
	if m.Twins[1].Left.Sender = 0; impl.MachDeep(m) != 0 || len(impl.MachView(m)) != 4 {
		t.Errorf("in a ring: %d", impl.MachDeep(m))
	}
	// As many as HeapBorn, and one more, on a page and on none.
	for _, size := range []int{1, 29, 30, 31, 32, 100} {
		want := size
		if size > 30 {
			want = 0
		}
		page := impl.Mach{Pages: []impl.Page{{Base: -1, Frames: slices.Repeat([]impl.Frame{{Twin: -1}}, size)}}}
		off := impl.Mach{Pages: []impl.Page{{Base: size - 2, Frames: []impl.Frame{{Twin: -1}}}}}
		for i := range size - 1 {
			off.Twins = append(off.Twins, impl.Twin{Page: -1, Left: impl.Call{Sender: i - 1}})
		}
		for _, m := range []impl.Mach{page, off} {
			if impl.MachDeep(m) != want || len(impl.MachView(m)) != size {
				t.Errorf("%d: %d deep, %d seen", size, impl.MachDeep(m), len(impl.MachView(m)))
			}
		}
	}
}

// wildMach is a machine that is seldom ok, though most that it tells of is there.
func wildMach(r *rand.Rand) impl.Mach {
	m := impl.Mach{Cells: 10 + r.Intn(60), Now: r.Intn(5) - 1, Born: r.Intn(40) - 2, Code: r.Intn(6) - 1}
	m.Pages, m.Twins = make([]impl.Page, r.Intn(5)), make([]impl.Twin, r.Intn(6))
	// A place is seldom none of these.
	place := func(size int) int {
		if size == 0 || r.Intn(60) == 0 {
			return []int{-2, -1, size, size + 1}[r.Intn(4)]
		}
		return r.Intn(size)
	}
	twin := func() int {
		if len(m.Twins) == 0 || r.Intn(3) == 0 {
			return -1
		}
		return place(len(m.Twins))
	}
	wild := func() []impl.Val {
		var out []impl.Val
		for range r.Intn(3) {
			out = append(out, impl.Val{Kind: r.Intn(4), Num: place(len(m.Twins))})
		}
		return out
	}
	for i := range m.Pages {
		m.Pages[i].Base = twin()
		for range r.Intn(4) {
			m.Pages[i].Frames = append(m.Pages[i].Frames, impl.Frame{Method: r.Intn(3), Pc: r.Intn(3), Twin: twin(), Temps: wild(), Stack: wild()})
		}
		m.Order = append(m.Order, r.Intn(5))
	}
	for i := range m.Twins {
		m.Twins[i] = impl.Twin{Page: -1, Left: impl.Call{Method: r.Intn(3), Temps: wild(), Stack: wild(), Sender: twin(), Dead: r.Intn(5) == 0}}
		if page := place(len(m.Pages)); page >= 0 && page < len(m.Pages) && r.Intn(2) == 0 {
			m.Twins[i] = impl.Twin{Page: page, At: place(len(m.Pages[page].Frames))}
		} else if r.Intn(60) == 0 {
			m.Twins[i] = impl.Twin{Page: page, At: r.Intn(2)}
		}
	}
	return m
}

func TestViewAndDeepOfWildMachines(t *testing.T) {
	r := rand.New(rand.NewSource(9))
	seen, deep, lost := 0, 0, 0
	p := readProg(t, "method 0 0", "call 0", "ret")
	for range 60000 {
		m := wildMach(r)
		view := impl.MachView(m)
		if !sameCalls(view, modelMachView(m)) || impl.MachDeep(m) != modelMachDeep(m) {
			t.Fatalf("of %v\n%v, not\n%v", m, view, modelMachView(m))
		}
		seen, deep, lost = counted(seen, len(view) > 1), counted(deep, impl.MachDeep(m) > 1), counted(lost, !modelAllThere(m))
		if !impl.MachOk(p, m) {
			notOk(t, "wild", p, m)
		}
	}
	if seen < 1000 || deep < 1000 || lost < 1000 {
		t.Errorf("%d, %d, %d", seen, deep, lost)
	}
}

// machLists is all lists of values that a machine has.
func machLists(m impl.Mach) [][]impl.Val {
	out := [][]impl.Val{m.Said}
	for _, page := range m.Pages {
		for _, f := range page.Frames {
			out = append(out, f.Temps, f.Stack)
		}
	}
	for _, x := range m.Twins {
		out = append(out, x.Left.Temps, x.Left.Stack)
	}
	return out
}

// withRoom is a list with spare room, and something in it.
func withRoom[T any](list []T, spare T) []T {
	return append(slices.Clone(list), spare, spare)[:len(list)]
}

// roomyMach is a machine the lists of which have spare room, with something in it.
func roomyMach(m impl.Mach) impl.Mach {
	m = copyMach(m)
	spare := number(555)
	for i := range m.Pages {
		page := &m.Pages[i]
		for j := range page.Frames {
			page.Frames[j].Temps, page.Frames[j].Stack = withRoom(page.Frames[j].Temps, spare), withRoom(page.Frames[j].Stack, spare)
		}
		page.Frames = withRoom(page.Frames, impl.Frame{Pc: 555})
	}
	for i := range m.Twins {
		left := &m.Twins[i].Left
		left.Temps, left.Stack = withRoom(left.Temps, spare), withRoom(left.Stack, spare)
	}
	m.Said, m.Order = withRoom(m.Said, spare), withRoom(m.Order, 555)
	m.Pages, m.Twins = withRoom(m.Pages, impl.Page{Base: 555}), withRoom(m.Twins, impl.Twin{At: 555})
	return m
}

// machRoomKept says whether what is behind the ends of a roomy machine is as it was.
func machRoomKept(m impl.Mach) bool {
	for _, list := range machLists(m) {
		if !slices.Equal(list[len(list):len(list)+2], vals(number(555), number(555))) {
			return false
		}
	}
	for _, page := range m.Pages {
		if frames := page.Frames[len(page.Frames) : len(page.Frames)+2]; frames[0].Pc != 555 || frames[1].Pc != 555 {
			return false
		}
	}
	pages, twins := m.Pages[len(m.Pages):len(m.Pages)+2], m.Twins[len(m.Twins):len(m.Twins)+2]
	return pages[0].Base == 555 && pages[1].Base == 555 && twins[0].At == 555 && twins[1].At == 555 &&
		slices.Equal(m.Order[len(m.Order):len(m.Order)+2], []int{555, 555})
}

// spoil writes over all of a list, spare room included.
func spoil[T any](list []T, with T) {
	for i := range list[:cap(list)] {
		list[:cap(list)][i] = with
	}
}

// spoilMach writes over all of an answer; each of its lists must stay till it is written over itself.
func spoilMach(t *testing.T, name string, m impl.Mach, kept func() bool) {
	t.Helper()
	checkOwn(t, name, machLists(m), kept)
	was := copyMach(m)
	for i := range m.Pages {
		spoil(m.Pages[i].Frames, impl.Frame{Method: 88})
		for j := i + 1; j < len(m.Pages); j++ {
			if !samePage(m.Pages[j], was.Pages[j]) {
				t.Fatalf("%s: the frames of pages %d and %d are one list", name, i, j)
			}
		}
	}
	spoil(m.Order, 88)
	spoil(m.Pages, impl.Page{Base: 88})
	spoil(m.Twins, impl.Twin{At: 88})
	if !kept() {
		t.Fatalf("%s: an argument is written into", name)
	}
}

// An answer is new memory, and shares none with an argument; an argument is not written into, nor behind its end.
func TestMachAnswersAreNewMemory(t *testing.T) {
	check := func(i int, prog impl.Prog, was impl.Mach) {
		m, p := roomyMach(was), copyProg(prog)
		kept := func() bool { return sameMach(m, was) && machRoomKept(m) && sameProg(p, prog) }
		first, _ := impl.MachNew(p, len(was.Pages), was.Cells)
		spoilMach(t, "MachNew", first, kept)
		for _, steps := range []int{0, 1, i % 30} {
			spoilMach(t, "MachRun", runMach(t, p, m, steps), kept)
		}
		one, _ := impl.MachStep(p, m)
		spoilMach(t, "MachStep", one, kept)
		for page := range m.Pages {
			spoilMach(t, "MachFlush", flushMach(t, p, m, page), kept)
		}
		view := impl.MachView(m)
		checkOwn(t, "MachView", listsOf(view), kept)
		spoil(view, impl.Call{Method: 88})
		impl.MachOk(p, m)
		if _ = impl.MachDeep(m) + impl.MachFrames(m) + impl.MachTwins(m); !kept() {
			t.Fatal("an argument is written into")
		}
	}
	for i, x := range machTraces() {
		check(i, x.p, x.machs[len(x.machs)/2])
	}
	for i, x := range oddMachs()[:2000] {
		check(i, x.p, x.m)
	}
}
