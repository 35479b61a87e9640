package tests

import (
	"math"
	"slices"
	"testing"

	"loop.example/gemel/impl"
)

// The twins of okMach: on page 0 the upper frame; on no page one that waits, and called it, and one that returned; on page 2 the last frame.
const (
	upperTwin = iota
	waitTwin
	deadTwin
	lastTwin
)

// okMach is an ok machine of okHeapProg, which the tests of this file break in one way each. It begins on page 2, goes on in a twin
// that is on no page, and runs on page 0; page 1 has no frames.
func okMach() impl.Mach {
	return impl.Mach{
		Cells: 26,
		Pages: []impl.Page{
			{Base: waitTwin, Frames: []impl.Frame{
				{Method: 1, Pc: 1, Twin: -1, Temps: vals(number(1), none, callVal(deadTwin)), Stack: vals(number(4))},
				{Method: 1, Pc: 2, Twin: upperTwin, Temps: vals(callVal(lastTwin), none, none), Stack: vals(none, callVal(upperTwin))},
			}},
			{Base: -1},
			{Base: -1, Frames: []impl.Frame{
				{Method: 0, Pc: 1, Twin: -1, Temps: vals(number(5), callVal(waitTwin))},
				{Method: 3, Pc: 2, Twin: lastTwin, Stack: vals(number(999))},
			}},
		},
		Order: []int{1, 2, 0},
		Now:   0,
		Twins: []impl.Twin{
			upperTwin: {Page: 0, At: 1},
			waitTwin:  {Page: -1, Left: impl.Call{Method: 2, Pc: 1, Temps: vals(none, number(7), callVal(upperTwin), none), Stack: vals(number(3)), Sender: lastTwin}},
			deadTwin:  {Page: -1, Left: impl.Call{Method: 3, Pc: 3, Sender: -1, Dead: true}},
			lastTwin:  {Page: 2, At: 1},
		},
		Born: 9,
		Said: vals(number(1)),
	}
}

// notOk asks that what is not ok is refused by all that ask for an ok machine.
func notOk(t *testing.T, name string, p impl.Prog, m impl.Mach) {
	t.Helper()
	if impl.MachOk(p, m) {
		t.Errorf("%s: ok is %v", name, m)
	}
	for _, steps := range []int{0, 1, 400} {
		if out, ok := impl.MachRun(p, m, steps); ok || !sameMach(out, impl.Mach{}) {
			t.Errorf("%s, run of %d: %v, %v", name, steps, out, ok)
		}
	}
	if out, ok := impl.MachStep(p, m); ok || !sameMach(out, impl.Mach{}) {
		t.Errorf("%s, a step: %v, %v", name, out, ok)
	}
	for page := -1; page <= 4; page++ {
		if out, ok := impl.MachFlush(p, m, page); ok || !sameMach(out, impl.Mach{}) {
			t.Errorf("%s, page %d flushed: %v, %v", name, page, out, ok)
		}
	}
	if out, ok := impl.MoveOut(p, m); ok || !sameHeap(out, impl.Heap{}) {
		t.Errorf("%s, moved out: %v, %v", name, out, ok)
	}
	if out, ok := impl.MoveTo(p, m, 2, 30); ok || !sameMach(out, impl.Mach{}) {
		t.Errorf("%s, moved: %v, %v", name, out, ok)
	}
	noTurns(t, name, p, m)
	noTurns(t, name, p, m, turnRun(1), turnFlush(0), turnMove(2))
	noTurns(t, name, p, m, turnRun(-1), impl.Turn{})
	noWalkOfMach(t, name, p, m)
	impl.MachView(m)
	impl.MachDeep(m)
	impl.MachFrames(m)
	impl.MachTwins(m)
}

func checkMachOk(t *testing.T, name string, want bool, change func(m *impl.Mach)) {
	t.Helper()
	p, m := okHeapProg(t), okMach()
	change(&m)
	if !want {
		notOk(t, name, p, m)
	} else if !impl.MachOk(p, m) {
		t.Errorf("%s: not ok is %v", name, m)
	}
}

// endMach makes all twins Dead, and leaves no frames.
func endMach(m *impl.Mach) {
	for page := range m.Pages {
		m.Pages[page] = impl.Page{Base: -1}
	}
	for i := range m.Twins {
		m.Twins[i] = impl.Twin{Page: -1, Left: impl.Call{Method: 3, Sender: -1, Dead: true}}
	}
	m.Now, m.Code = -1, 1
}

func TestMachinesThatAreOk(t *testing.T) {
	for name, change := range map[string]func(m *impl.Mach){
		"as it is":              func(m *impl.Mach) {},
		"as many calls as born": func(m *impl.Mach) { m.Born = 6 },
		"all born":              func(m *impl.Mach) { m.Born = 30 },
		"nothing said":          func(m *impl.Mach) { m.Said = nil },
		"all kinds said":        func(m *impl.Mach) { m.Said = vals(none, number(0), number(999), callVal(0), callVal(3)) },
		"much said":             func(m *impl.Mach) { m.Said = slices.Repeat(vals(number(3)), 1000) },
		"stuck":                 func(m *impl.Mach) { m.Code = 2 },
		"full":                  func(m *impl.Mach) { m.Code = 3 },
		"most cells":            func(m *impl.Mach) { m.Cells = 60 },
		"other pages earlier":   func(m *impl.Mach) { m.Order = []int{2, 1, 0} },
		"a page more":           func(m *impl.Mach) { m.Pages, m.Order = append(m.Pages, impl.Page{Base: -1}), []int{3, 1, 2, 0} },
		"a page fewer": func(m *impl.Mach) {
			m.Pages, m.Order, m.Twins[lastTwin].Page = slices.Delete(m.Pages, 1, 2), []int{1, 0}, 1
		},
		"Pc at the end":        func(m *impl.Mach) { m.Pages[0].Frames[1].Pc = 5 },
		"six values":           func(m *impl.Mach) { m.Pages[0].Frames[1].Stack = slices.Repeat(vals(number(999)), 6) },
		"five values, waiting": func(m *impl.Mach) { m.Pages[0].Frames[0].Stack = slices.Repeat(vals(callVal(3)), 5) },
		"five values, a twin":  func(m *impl.Mach) { m.Twins[waitTwin].Left.Stack = slices.Repeat(vals(none), 5) },
		"a twin more": func(m *impl.Mach) {
			m.Twins, m.Pages[2].Frames[0].Twin = append(m.Twins, impl.Twin{Page: 2}), 4
		},
		"ended": endMach,
		"ended, in any order": func(m *impl.Mach) {
			endMach(m)
			m.Order = []int{2, 0, 1}
		},
		"ended, without twins": func(m *impl.Mach) {
			endMach(m)
			m.Twins, m.Born = nil, 1
		},
		"who called is on a page at once": func(m *impl.Mach) {
			m.Pages[0].Base, m.Twins[waitTwin].Left = lastTwin, impl.Call{Method: 3, Sender: -1, Dead: true}
		},
		"the lowest was called by a twin": func(m *impl.Mach) {
			m.Pages[2].Base, m.Twins[deadTwin].Left = deadTwin, impl.Call{Method: 3, Sender: -1}
		},
	} {
		checkMachOk(t, name, true, change)
	}
}

func TestMachinesWhoseNumbersAreNotOk(t *testing.T) {
	for name, change := range map[string]func(m *impl.Mach){
		"nothing":                   func(m *impl.Mach) { *m = impl.Mach{} },
		"no pages":                  func(m *impl.Mach) { m.Pages, m.Order = nil, nil },
		"no pages, ended":           func(m *impl.Mach) { *m = impl.Mach{Cells: 20, Now: -1, Born: 1, Code: 1} },
		"too many pages":            func(m *impl.Mach) { m.Pages, m.Order = append(m.Pages, make([]impl.Page, 2)...), []int{1, 2, 3, 4, 0} },
		"too many empty pages":      func(m *impl.Mach) { m.Pages, m.Order = append(m.Pages, m.Pages[1], m.Pages[1]), []int{1, 2, 3, 4, 0} },
		"too few cells":             func(m *impl.Mach) { m.Cells = 25 },
		"no cells":                  func(m *impl.Mach) { m.Cells = 0 },
		"one cell too few":          func(m *impl.Mach) { endMach(m); m.Cells = 13 },
		"one cell too many":         func(m *impl.Mach) { m.Cells = 61 },
		"cells far off":             func(m *impl.Mach) { m.Cells = math.MaxInt },
		"no order":                  func(m *impl.Mach) { m.Order = nil },
		"a page is not in order":    func(m *impl.Mach) { m.Order = []int{1, 0} },
		"a page is twice in order":  func(m *impl.Mach) { m.Order = []int{1, 1, 0} },
		"a page is once more there": func(m *impl.Mach) { m.Order = []int{1, 2, 1, 0} },
		"no such page in order":     func(m *impl.Mach) { m.Order = []int{1, 3, 0} },
		"a page below in order":     func(m *impl.Mach) { m.Order = []int{1, -1, 0} },
		"the page that runs first":  func(m *impl.Mach) { m.Order = []int{0, 1, 2} },
		"ended, a page twice":       func(m *impl.Mach) { endMach(m); m.Order = []int{1, 1, 0} },
		"ended, no order":           func(m *impl.Mach) { endMach(m); m.Order = nil },
		"no page runs":              func(m *impl.Mach) { m.Now = -1 },
		"Now below":                 func(m *impl.Mach) { m.Now = -2 },
		"Now past the end":          func(m *impl.Mach) { m.Now = 3 },
		"Now far off":               func(m *impl.Mach) { m.Now = math.MaxInt },
		"Now has no frames":         func(m *impl.Mach) { m.Now, m.Order = 1, []int{0, 2, 1} },
		"another page runs":         func(m *impl.Mach) { m.Now, m.Order = 2, []int{0, 1, 2} },
		"none born":                 func(m *impl.Mach) { m.Born = 0 },
		"none born, ended":          func(m *impl.Mach) { endMach(m); m.Twins, m.Born = nil, 0 },
		"fewer than none born":      func(m *impl.Mach) { m.Born = -1 },
		"too many born":             func(m *impl.Mach) { m.Born = 31 },
		"more calls than born":      func(m *impl.Mach) { m.Born = 5 },
		"more wait than were born":  func(m *impl.Mach) { m.Born = 4 },
		"more twins than born":      func(m *impl.Mach) { m.Born = 3 },
		"too many twins": func(m *impl.Mach) {
			m.Born, m.Twins = 30, append(m.Twins, slices.Repeat(m.Twins[deadTwin:deadTwin+1], 27)...)
		},
		"a code below":               func(m *impl.Mach) { m.Code = -1 },
		"a code above":               func(m *impl.Mach) { m.Code = 4 },
		"ended, and one runs":        func(m *impl.Mach) { m.Code = 1 },
		"runs, and none does":        func(m *impl.Mach) { endMach(m); m.Code = 0 },
		"stuck, and none runs":       func(m *impl.Mach) { endMach(m); m.Code = 2 },
		"full, and none runs":        func(m *impl.Mach) { endMach(m); m.Code = 3 },
		"nothing with a number said": func(m *impl.Mach) { m.Said = vals(none, impl.Val{Num: 1}) },
		"a number too great said":    func(m *impl.Mach) { m.Said = vals(number(1000)) },
		"no method said":             func(m *impl.Mach) { m.Said = vals(number(1), callVal(4)) },
		"a method below said":        func(m *impl.Mach) { m.Said = vals(callVal(-1)) },
		"another kind said":          func(m *impl.Mach) { m.Said = vals(impl.Val{Kind: 3}) },
	} {
		checkMachOk(t, name, false, change)
	}
}

// badMachVals are values that are none where there are four twins.
func badMachVals() []impl.Val {
	return vals(impl.Val{Num: 1}, number(-1), number(1000), callVal(-1), callVal(4), callVal(math.MaxInt), impl.Val{Kind: 3}, impl.Val{Kind: -1})
}

// Each frame has to be in form, and to tell its twin, if it has one.
func TestMachinesWhoseFramesAreNotInForm(t *testing.T) {
	for page, x := range okMach().Pages {
		for at, f := range x.Frames {
			for name, change := range map[string]func(f *impl.Frame){
				"a method below":      func(f *impl.Frame) { f.Method = -1 },
				"no method":           func(f *impl.Frame) { f.Method = 4 },
				"Pc below":            func(f *impl.Frame) { f.Pc = -1 },
				"Pc behind the end":   func(f *impl.Frame) { f.Pc = len(okHeapProg(t).Methods[f.Method].Ops) + 1 },
				"a temp more":         func(f *impl.Frame) { f.Temps = append(f.Temps, none) },
				"too many values":     func(f *impl.Frame) { f.Stack = slices.Repeat(vals(none), 7) },
				"a twin below":        func(f *impl.Frame) { f.Twin = -2 },
				"a twin that is none": func(f *impl.Frame) { f.Twin = 4 },
				"a twin far off":      func(f *impl.Frame) { f.Twin = math.MaxInt },
				"a twin on no page":   func(f *impl.Frame) { f.Twin = deadTwin },
				"one that waits":      func(f *impl.Frame) { f.Twin = waitTwin },
				"another one's twin":  func(f *impl.Frame) { f.Twin = map[int]int{0: lastTwin, 2: upperTwin}[page] },
				"one's twin there": func(f *impl.Frame) {
					f.Twin = map[bool]int{true: -1, false: map[int]int{0: upperTwin, 2: lastTwin}[page]}[at == 1]
				},
			} {
				checkMachOk(t, name, false, func(m *impl.Mach) { change(&m.Pages[page].Frames[at]) })
			}
			if len(f.Temps) > 0 {
				checkMachOk(t, "a temp fewer", false, func(m *impl.Mach) { m.Pages[page].Frames[at].Temps = f.Temps[1:] })
			}
			for _, v := range badMachVals() {
				if len(f.Temps) > 0 {
					checkMachOk(t, "a temp", false, func(m *impl.Mach) { m.Pages[page].Frames[at].Temps[len(f.Temps)-1] = v })
				}
				checkMachOk(t, "a value", false, func(m *impl.Mach) { m.Pages[page].Frames[at].Stack = vals(none, v) })
			}
		}
	}
}

// What is left of each twin on no page has to be in form; one on a page has nothing left, and is told by its frame.
func TestMachinesWhoseTwinsAreNotInForm(t *testing.T) {
	for _, number := range []int{waitTwin, deadTwin} {
		for name, change := range map[string]func(x *impl.Twin){
			"on a page":             func(x *impl.Twin) { x.Page = 0 },
			"on one without frames": func(x *impl.Twin) { x.Page = 1 },
			"on a page below":       func(x *impl.Twin) { x.Page = -2 },
			"at a place":            func(x *impl.Twin) { x.At = 1 },
			"at a place below":      func(x *impl.Twin) { x.At = -1 },
			"nothing left":          func(x *impl.Twin) { x.Left = impl.Call{} },
			"a method below":        func(x *impl.Twin) { x.Left.Method = -1 },
			"no method":             func(x *impl.Twin) { x.Left.Method = 4 },
			"Pc below":              func(x *impl.Twin) { x.Left.Pc = -1 },
			"Pc behind the end":     func(x *impl.Twin) { x.Left.Pc = 4 },
			"a temp more":           func(x *impl.Twin) { x.Left.Temps = append(x.Left.Temps, none) },
			"six values":            func(x *impl.Twin) { x.Left.Stack = slices.Repeat(vals(none), 6) },
			"seven values":          func(x *impl.Twin) { x.Left.Stack = slices.Repeat(vals(none), 7) },
			"a caller below":        func(x *impl.Twin) { x.Left.Sender = -2 },
			"a caller that is none": func(x *impl.Twin) { x.Left.Sender = 4 },
			"a caller far off":      func(x *impl.Twin) { x.Left.Sender = math.MaxInt },
			"it called itself":      func(x *impl.Twin) { x.Left.Sender = number },
			"the other way":         func(x *impl.Twin) { x.Left.Dead = !x.Left.Dead },
		} {
			checkMachOk(t, name, false, func(m *impl.Mach) { change(&m.Twins[number]) })
		}
		for _, v := range badMachVals() {
			checkMachOk(t, "a value", false, func(m *impl.Mach) { m.Twins[number].Left.Stack = vals(v) })
		}
	}
	for _, v := range badMachVals() {
		checkMachOk(t, "a temp", false, func(m *impl.Mach) { m.Twins[waitTwin].Left.Temps[3] = v })
	}
	for _, number := range []int{upperTwin, lastTwin} {
		for name, change := range map[string]func(x *impl.Twin){
			"on no page":        func(x *impl.Twin) { *x = impl.Twin{Page: -1, Left: impl.Call{Method: 3, Sender: -1, Dead: true}} },
			"on another page":   func(x *impl.Twin) { x.Page = 2 - x.Page },
			"without frames":    func(x *impl.Twin) { x.Page = 1 },
			"on a page below":   func(x *impl.Twin) { x.Page = -2 },
			"on no such page":   func(x *impl.Twin) { x.Page = 3 },
			"on a page far off": func(x *impl.Twin) { x.Page = math.MaxInt },
			"the frame below":   func(x *impl.Twin) { x.At = 0 },
			"no frame":          func(x *impl.Twin) { x.At = 2 },
			"below all frames":  func(x *impl.Twin) { x.At = -1 },
			"a frame far off":   func(x *impl.Twin) { x.At = math.MinInt },
			"a method left":     func(x *impl.Twin) { x.Left.Method = 1 },
			"a Pc left":         func(x *impl.Twin) { x.Left.Pc = 1 },
			"a temp left":       func(x *impl.Twin) { x.Left.Temps = vals(none) },
			"a value left":      func(x *impl.Twin) { x.Left.Stack = vals(none) },
			"nobody called it":  func(x *impl.Twin) { x.Left.Sender = -1 },
			"one called it":     func(x *impl.Twin) { x.Left.Sender = 1 },
			"Dead":              func(x *impl.Twin) { x.Left.Dead = true },
		} {
			checkMachOk(t, name, false, func(m *impl.Mach) { change(&m.Twins[number]) })
		}
	}
}

func TestMachinesWhoseCallsDoNotWait(t *testing.T) {
	for name, change := range map[string]func(m *impl.Mach){
		"a Base without frames":       func(m *impl.Mach) { m.Pages[1].Base = deadTwin },
		"a Base 0 without frames":     func(m *impl.Mach) { m.Pages[1].Base = 0 },
		"a Base below, no frames":     func(m *impl.Mach) { m.Pages[1].Base = -2 },
		"a Base below":                func(m *impl.Mach) { m.Pages[2].Base = -2 },
		"no such Base":                func(m *impl.Mach) { m.Pages[2].Base = 4 },
		"a Base far off":              func(m *impl.Mach) { m.Pages[0].Base = math.MaxInt },
		"a Base that is Dead":         func(m *impl.Mach) { m.Pages[2].Base = deadTwin },
		"its own last frame":          func(m *impl.Mach) { m.Pages[2].Base = lastTwin },
		"the page that runs":          func(m *impl.Mach) { m.Pages[2].Base = upperTwin },
		"a ring":                      func(m *impl.Mach) { m.Pages[2].Base = waitTwin },
		"its own last frame, running": func(m *impl.Mach) { m.Pages[0].Base = upperTwin },
		"nobody called the running":   func(m *impl.Mach) { m.Pages[0].Base = -1 },
		"a twin is left out":          func(m *impl.Mach) { m.Pages[0].Base = lastTwin },
		"a page is left out":          func(m *impl.Mach) { m.Twins[waitTwin].Left.Sender = -1 },
		"twins in a ring":             func(m *impl.Mach) { m.Twins[waitTwin].Left.Sender = upperTwin },
		"one is not Dead, nor waits":  func(m *impl.Mach) { m.Twins[deadTwin].Left.Dead = false },
		"one is Dead, and waits":      func(m *impl.Mach) { m.Twins[waitTwin].Left.Dead = true },
		"Dead, with its caller":       func(m *impl.Mach) { m.Twins[deadTwin].Left.Sender = upperTwin },
		"Dead, with its values":       func(m *impl.Mach) { m.Twins[deadTwin].Left.Stack = vals(none) },
		"six values, waiting":         func(m *impl.Mach) { m.Pages[0].Frames[0].Stack = slices.Repeat(vals(none), 6) },
		"six values, on a page":       func(m *impl.Mach) { m.Pages[2].Frames[1].Stack = slices.Repeat(vals(none), 6) },
		"six values, lowest":          func(m *impl.Mach) { m.Pages[2].Frames[0].Stack = slices.Repeat(vals(none), 6) },
		"ended, and one is not Dead":  func(m *impl.Mach) { endMach(m); m.Twins[deadTwin].Left.Dead = false },
		"ended, and one has a frame":  func(m *impl.Mach) { endMach(m); m.Pages[1].Frames = []impl.Frame{{Method: 3, Twin: -1}} },
		"ended, with a Base":          func(m *impl.Mach) { endMach(m); m.Pages[1].Base = 0 },
		"a frame that nobody waits for": func(m *impl.Mach) {
			m.Pages[1].Frames = []impl.Frame{{Method: 3, Twin: -1}}
		},
		"a Base that is not the last": func(m *impl.Mach) {
			m.Pages[0].Base, m.Twins[waitTwin].Left = 4, impl.Call{Method: 3, Sender: -1, Dead: true}
			m.Twins, m.Pages[2].Frames[0].Twin = append(m.Twins, impl.Twin{Page: 2}), 4
		},
		"one that called is not the last": func(m *impl.Mach) {
			m.Twins[waitTwin].Left.Sender = 4
			m.Twins, m.Pages[2].Frames[0].Twin = append(m.Twins, impl.Twin{Page: 2}), 4
		},
		"more than the cells": func(m *impl.Mach) {
			m.Pages[2].Frames = slices.Insert(m.Pages[2].Frames, 0, impl.Frame{Method: 3, Twin: -1})
			m.Twins[lastTwin].At = 2
		},
	} {
		checkMachOk(t, name, false, change)
	}
}

// A page may be filled exactly, by frames that run and by others; with one cell fewer it is not ok.
func TestCellsThatFramesTake(t *testing.T) {
	p := readProg(t, "method 0 0", "method 0 1", "method 0 2", "method 0 3")
	for _, x := range []struct {
		methods []int
		cells   int
	}{
		{[]int{0, 0}, 20}, {[]int{0, 3}, 23}, {[]int{1, 2, 3}, 36}, {[]int{3, 3, 3, 3}, 52}, {[]int{0, 0, 0, 0, 0, 0}, 60}, {[]int{1, 2, 1, 2, 3}, 59},
	} {
		for _, other := range []bool{false, true} {
			page := impl.Page{Base: -1}
			for _, method := range x.methods {
				page.Frames = append(page.Frames, impl.Frame{Method: method, Twin: -1, Temps: make([]impl.Val, method)})
			}
			m := impl.Mach{Pages: []impl.Page{page, {Base: -1}}, Order: []int{1, 0}, Born: 9}
			if other {
				page.Frames[len(page.Frames)-1].Twin = 0
				m.Pages[1] = impl.Page{Base: 0, Frames: []impl.Frame{{Twin: -1}}}
				m.Now, m.Order, m.Twins = 1, []int{0, 1}, []impl.Twin{{At: len(page.Frames) - 1}}
			}
			for cells := 13; cells <= 61; cells++ {
				m.Cells = cells
				if impl.MachOk(p, m) != (cells >= x.cells && cells <= 60) {
					t.Errorf("%v in %d cells: %v", x.methods, cells, impl.MachOk(p, m))
				}
			}
		}
	}
	// More frames than can be are too many by their cells.
	many := impl.Mach{Cells: 60, Pages: []impl.Page{{Base: -1, Frames: slices.Repeat([]impl.Frame{{Twin: -1}}, 7)}}, Order: []int{0}, Born: 30}
	if impl.MachOk(p, many) {
		t.Error("seven frames are ok")
	}
}

// A machine of one program is none of another, nor of one that is not ok.
func TestMachineOfAnotherProgram(t *testing.T) {
	for name, p := range otherProgs(t) {
		notOk(t, name, p, okMach())
	}
}

// P54, P51. No more calls than Born are on an ok machine, in whichever way they wait: so flushed, and run, it is ok.
func TestNoMoreCallsThanBorn(t *testing.T) {
	p := readProg(t, "method 0 0", "here", "sender", "drop", "call 0", "ret")
	frames := func(twins ...int) []impl.Frame {
		var out []impl.Frame
		for _, twin := range twins {
			out = append(out, impl.Frame{Twin: twin})
		}
		return out
	}
	one := func(base int, frames []impl.Frame, twins ...impl.Twin) impl.Mach {
		return impl.Mach{Cells: 60, Pages: []impl.Page{{Base: base, Frames: frames}}, Order: []int{0}, Twins: twins}
	}
	dead := impl.Twin{Page: -1, Left: impl.Call{Sender: -1, Dead: true}}
	first := impl.Twin{Page: -1, Left: impl.Call{Sender: -1}}
	second := impl.Twin{Page: -1, Left: impl.Call{Sender: 0}}
	two := one(-1, frames(-1, 0), impl.Twin{At: 1})
	two.Pages, two.Order, two.Now = append(two.Pages, impl.Page{Base: 0, Frames: frames(-1, -1)}), []int{0, 1}, 1
	ended := one(-1, nil, dead, dead)
	ended.Now, ended.Code = -1, 1
	for name, x := range map[string]struct {
		m     impl.Mach
		calls int
	}{
		"a frame":                           {one(-1, frames(-1)), 1},
		"two frames":                        {one(-1, frames(-1, -1)), 2},
		"six frames":                        {one(-1, frames(-1, -1, -1, -1, -1, -1)), 6},
		"two frames, one with a twin":       {one(-1, frames(0, -1), impl.Twin{}), 2},
		"two frames with twins":             {one(-1, frames(1, 0), impl.Twin{At: 1}, impl.Twin{}), 2},
		"a frame, and who called it":        {one(0, frames(-1), first), 2},
		"a frame, and two who wait":         {one(1, frames(-1), first, second), 3},
		"a frame with a twin, and two more": {one(1, frames(2), first, second, impl.Twin{}), 3},
		"frames on two pages":               {two, 4},
		"a frame, and one Dead":             {one(-1, frames(-1), dead), 2},
		"two frames, and one Dead":          {one(-1, frames(-1, -1), dead), 3},
		"two frames, and three Dead":        {one(-1, frames(-1, -1), dead, dead, dead), 5},
		"a frame, one waits, one is Dead":   {one(0, frames(-1), first, dead), 3},
		"a frame with a twin, and one Dead": {one(-1, frames(1), dead, impl.Twin{}), 2},
		"ended, and two Dead":               {ended, 2},
	} {
		for born := -1; born <= 31; born++ {
			m := copyMach(x.m)
			if m.Born = born; born < x.calls || born > 30 {
				notOk(t, name, p, m)
				continue
			}
			staysOk(t, name, p, m)
		}
	}
}

// staysOk asks for an ok machine, that is ok when it is flushed, page by page, and run.
func staysOk(t *testing.T, name string, p impl.Prog, m impl.Mach) {
	t.Helper()
	flushed := m
	for page := range m.Pages {
		flushed = flushMach(t, p, flushed, page)
		for _, x := range []impl.Mach{flushed, flushMach(t, p, m, page), runMach(t, p, flushed, 3)} {
			if !impl.MachOk(p, x) || len(x.Twins) > x.Born {
				t.Fatalf("%s: %v, then %v", name, m, x)
			}
		}
	}
	for _, steps := range []int{0, 1, 2, 3, 50, 400} {
		if x := runMach(t, p, m, steps); !impl.MachOk(p, x) || impl.MachDeep(x) > x.Born {
			t.Fatalf("%s: %v, after %d %v", name, m, steps, x)
		}
	}
}

// Machines that programs run to, and others that are in form, are ok; with fewer born than calls, or a page twice, they are not.
func TestManyMachinesAreOk(t *testing.T) {
	eachMachAndOdd(func(p impl.Prog, m impl.Mach) {
		if !impl.MachOk(p, m) {
			t.Fatalf("%q: %v is not ok", impl.ProgText(p), m)
		}
	})
	for _, x := range oddMachs() {
		bad := copyMach(x.m)
		bad.Born = modelBorn(bad) - 1
		notOk(t, "fewer born", x.p, bad)
		bad.Born++
		staysOk(t, "as many born", x.p, bad)
		bad = copyMach(x.m)
		bad.Cells = modelUsed(bad.Pages[bad.Now]) - 1
		notOk(t, "fewer cells", x.p, bad)
		bad = copyMach(x.m)
		modelTop(&bad).Pc = len(x.p.Methods[modelTop(&bad).Method].Ops) + 1
		notOk(t, "Pc behind the end", x.p, bad)
	}
}
