package tests

import (
	"math"
	"slices"
	"testing"

	"loop.example/gemel/impl"
)

// checkDeep holds DeepAt and DeepMost of method 0 against what is wanted; nil: it has no DeepAt.
func checkDeep(t *testing.T, p impl.Prog, want []int) {
	t.Helper()
	most := -1
	if want != nil {
		most = slices.Max(want)
	}
	at, ok := impl.DeepAt(p, 0)
	if ok != (want != nil) || !slices.Equal(at, want) {
		t.Errorf("%q: %v, %v, not %v", impl.ProgText(p), at, ok, want)
	}
	if got := impl.DeepMost(p, 0); got != most {
		t.Errorf("%q: at most %d, not %d", impl.ProgText(p), got, most)
	}
	if got := impl.DeepOk(p); got != (want != nil) {
		t.Errorf("%q: ok %v", impl.ProgText(p), got)
	}
}

// P6. DeepAt goes on from each operation to all that may be next, from 0.
func TestDeepGoesOnToAllThatMayBeNext(t *testing.T) {
	fine, jumps := 0, 0
	for _, p := range deepProgs() {
		for method, m := range p.Methods {
			at, ok := impl.DeepAt(p, method)
			want, wantOk := everyWay(p, method)
			if ok != wantOk || !slices.Equal(at, want) {
				t.Fatalf("method %d of %q: %v, %v, not %v, %v", method, impl.ProgText(p), at, ok, want, wantOk)
			}
			if !ok {
				continue
			}
			fine++
			jumps += checkNext(t, p, m, at)
		}
	}
	if fine < 300 || jumps < 300 {
		t.Errorf("only %d methods have a DeepAt, with %d jumps", fine, jumps)
	}
}

// checkNext asks for each operation that is come to what the document says of it alone; it tells how many go on elsewhere than behind.
func checkNext(t *testing.T, p impl.Prog, m impl.Method, at []int) int {
	t.Helper()
	jumps := 0
	for i, op := range m.Ops {
		if i == 0 && at[i] != 0 || at[i] < -1 || at[i] > 6 {
			t.Fatalf("%v of %v", at, m)
		}
		if at[i] == -1 {
			continue
		}
		takes, leaves := impl.OpTakes(p, op)
		for _, next := range nextBehind(op, i) {
			if at[i] < takes || at[next] != at[i]-takes+leaves {
				t.Fatalf("%v of %v: from %d to %d", at, m, i, next)
			}
			if next != i+1 {
				jumps++
			}
		}
	}
	return jumps
}

func TestValuesAheadOfEachKind(t *testing.T) {
	checkDeep(t, deepMethod(t, "num 1", "temp 0", "add", "set 0", "here", "sender", "peek 3", "drop", "here", "num 2", "poke 3", "num 1", "ret"),
		[]int{0, 1, 2, 1, 0, 1, 1, 1, 0, 1, 2, 0, 1})
	checkDeep(t, deepMethod(t, "here", "num 1", "same", "say", "here", "dead", "here", "where", "here", "num 0", "back", "ret"),
		[]int{0, 1, 2, 1, 0, 1, 1, 2, 2, 3, 4, 3})
	checkDeep(t, deepMethod(t, "call 1", "call 2", "call 1", "call 3", "ret"), []int{0, 1, 1, 2, 1})
	checkDeep(t, deepMethod(t, "num 1", "num 2", "num 3", "call 0", "call 3", "ret"), []int{0, 1, 2, 3, 4, 3})
}

// There are never too few to take: just as many are enough, whatever the kind.
func TestTooFewToTake(t *testing.T) {
	for _, row := range kindRows {
		for _, a := range []int{0, 1, 2, 3} {
			if row.owns == "" && a > 0 {
				continue
			}
			for values := range 4 {
				checkWithValues(t, impl.Op{Kind: row.kind, A: a}, row, values)
			}
		}
	}
}

// checkWithValues lets an operation find so many values, and then return one that is put behind it.
func checkWithValues(t *testing.T, op impl.Op, row kindRow, values int) {
	t.Helper()
	p := deepMethod(t, nums(values, "drop", "num 0", "ret")...)
	p.Methods[0].Ops[values] = op
	takes := rowTakes(p, op)
	if op.Kind == impl.OpJump || op.Kind == impl.OpZero {
		p.Methods[0].Ops[values].A = values + 1
	}
	var want []int
	if takes <= values {
		for i := range values + 1 {
			want = append(want, i)
		}
		left := values - takes + row.leaves
		if row.kind == impl.OpRet {
			want = append(want, -1, -1)
		} else {
			want = append(want, left, left+1)
		}
	}
	checkDeep(t, p, want)
}

// StackMax values may be met exactly; one more left is too many.
func TestStackMaxIsMetExactly(t *testing.T) {
	checkDeep(t, deepMethod(t, nums(6, "ret")...), []int{0, 1, 2, 3, 4, 5, 6})
	checkDeep(t, deepMethod(t, nums(7, "ret")...), nil)
	for _, op := range []string{"num 1", "temp 0", "here", "call 0", "call 1"} {
		checkDeep(t, deepMethod(t, nums(5, op, "ret")...), []int{0, 1, 2, 3, 4, 5, 6})
		checkDeep(t, deepMethod(t, nums(6, op, "ret")...), nil)
		checkDeep(t, deepMethod(t, nums(6, op, "drop", "ret")...), nil)
	}
	for _, op := range []string{"call 2", "sender", "peek 0", "dead", "where", "jump 7"} {
		checkDeep(t, deepMethod(t, nums(6, op, "ret")...), []int{0, 1, 2, 3, 4, 5, 6, 6})
	}
	for _, op := range []string{"set 0", "drop", "add", "same", "zero 7", "call 3", "back", "say"} {
		checkDeep(t, deepMethod(t, nums(6, op, "ret")...), []int{0, 1, 2, 3, 4, 5, 6, 5})
	}
	checkDeep(t, deepMethod(t, nums(6, "poke 0", "ret")...), []int{0, 1, 2, 3, 4, 5, 6, 4})
}

func TestOperationThatNobodyComesTo(t *testing.T) {
	checkDeep(t, deepMethod(t, "num 1", "ret", "num 2"), []int{0, 1, -1})
	checkDeep(t, deepMethod(t, "num 1", "ret", "add"), []int{0, 1, -1})
	checkDeep(t, deepMethod(t, "jump 3", "num 1", "jump 2", "num 2", "ret"), []int{0, -1, -1, 0, 1})
	// One that nobody comes to leads nowhere: neither does it make others come to, nor do its values count.
	checkDeep(t, deepMethod(t, "num 1", "ret", "jump 0", "drop", "zero 1", "back", "here", "jump 1"), []int{0, 1, -1, -1, -1, -1, -1, -1})
	checkDeep(t, deepMethod(t, append([]string{"num 1", "ret"}, nums(12)...)...), []int{0, 1, -1, -1, -1, -1, -1, -1, -1, -1, -1, -1, -1, -1})
}

func TestTwoWaysThatComeTogether(t *testing.T) {
	// As many values either way: by a jump over a branch, by both branches, and by OpZero whose both are one.
	checkDeep(t, deepMethod(t, "temp 0", "zero 4", "num 1", "jump 5", "num 2", "ret"), []int{0, 1, 0, 1, 0, 1})
	checkDeep(t, deepMethod(t, "num 7", "temp 0", "zero 5", "num 1", "add", "ret"), []int{0, 1, 2, 1, 2, 1})
	checkDeep(t, deepMethod(t, "num 7", "num 1", "zero 3", "ret"), []int{0, 1, 2, 1})
	// Unlike ones: whichever of both ways is shorter, or stands first.
	checkDeep(t, deepMethod(t, "temp 0", "zero 3", "num 1", "num 2", "ret"), nil)
	checkDeep(t, deepMethod(t, "num 1", "temp 0", "zero 5", "num 1", "num 2", "ret"), nil)
	checkDeep(t, deepMethod(t, "num 1", "temp 0", "zero 6", "num 1", "jump 5", "ret", "jump 5"), nil)
	checkDeep(t, deepMethod(t, "num 1", "temp 0", "zero 4", "jump 6", "num 1", "num 1", "ret"), nil)
	checkDeep(t, deepMethod(t, "num 1", "num 1", "temp 0", "zero 5", "drop", "num 0", "drop", "num 0", "ret"), nil)
}

func TestNextBehindTheEnd(t *testing.T) {
	for _, row := range kindRows {
		p := deepMethod(t, "num 0", "num 0", "num 0", "drop")
		p.Methods[0].Ops[3] = impl.Op{Kind: row.kind}
		if row.kind == impl.OpJump {
			p.Methods[0].Ops[3].A = 3
		}
		var want []int
		if row.kind == impl.OpJump || row.kind == impl.OpRet {
			want = []int{0, 1, 2, 3}
		}
		checkDeep(t, p, want)
	}
	// OpZero has two that are next: that one of them is there is not enough.
	checkDeep(t, deepMethod(t, "num 1", "zero 0"), nil)
	checkDeep(t, deepMethod(t, "num 1", "zero 0", "num 1", "ret"), []int{0, 1, 0, 1})
	checkDeep(t, deepMethod(t, "jump 2", "ret", "num 1"), nil)
	checkDeep(t, deepMethod(t, nums(13, "ret")...), nil)
	checkDeep(t, deepMethod(t, "num 1"), nil)
}

func TestJumpToItselfAndBackwards(t *testing.T) {
	checkDeep(t, deepMethod(t, "jump 0"), []int{0})
	checkDeep(t, deepMethod(t, "num 1", "jump 1"), []int{0, 1})
	checkDeep(t, deepMethod(t, "num 1", "drop", "jump 0"), []int{0, 1, 0})
	checkDeep(t, deepMethod(t, "num 1", "num 1", "drop", "jump 1"), []int{0, 1, 2, 1})
	// There are 0 ahead of the first one, however one comes back to it.
	checkDeep(t, deepMethod(t, "num 1", "jump 0"), nil)
	checkDeep(t, deepMethod(t, "num 1", "num 1", "drop", "jump 0"), nil)
	checkDeep(t, deepMethod(t, "num 1", "drop", "num 1", "drop", "jump 1"), nil)
	checkDeep(t, deepMethod(t, "zero 0", "num 1", "ret"), nil)
	checkDeep(t, deepMethod(t, "num 1", "zero 1", "num 1", "ret"), nil)
	checkDeep(t, deepMethod(t, "num 1", "num 1", "zero 0", "ret"), nil)
}

// P7. DeepMost is not below what DeepAt tells, nor above StackMax; -1, if that is false.
func TestDeepMost(t *testing.T) {
	var seen [8]int
	for _, p := range deepProgs() {
		for method, m := range p.Methods {
			at, ok := impl.DeepAt(p, method)
			want := -1
			if ok {
				want = slices.Max(at)
				for i, op := range m.Ops {
					if takes, leaves := impl.OpTakes(p, op); at[i] >= 0 {
						want = max(want, at[i]-takes+leaves)
					}
				}
			}
			most := impl.DeepMost(p, method)
			if most != want || most > impl.StackMax || ok != (most >= 0) {
				t.Fatalf("method %d of %q: %d, not %d", method, impl.ProgText(p), most, want)
			}
			seen[most+1]++
		}
	}
	for most, n := range seen {
		if n == 0 {
			t.Errorf("no method has %d", most-1)
		}
	}
	if impl.StackMax != 6 {
		t.Errorf("StackMax is %d", impl.StackMax)
	}
}

// P8. DeepOk is DeepAt of each method of an ok program.
func TestDeepOk(t *testing.T) {
	fine, not := 0, 0
	for _, p := range deepProgs() {
		want := true
		for method := range p.Methods {
			_, ok := impl.DeepAt(p, method)
			want = want && ok
		}
		if impl.DeepOk(p) != want {
			t.Fatalf("%q: %v", impl.ProgText(p), !want)
		}
		if want {
			fine++
		} else if impl.ProgOk(p) {
			not++
		}
	}
	if fine < 50 || not < 50 {
		t.Errorf("%d are so, %d are not", fine, not)
	}
	good, bad := impl.Method{Ops: []impl.Op{{Kind: impl.OpJump}}}, impl.Method{Ops: []impl.Op{{Kind: impl.OpRet}}}
	for place := range 4 {
		p := impl.Prog{Methods: []impl.Method{good, good, good, good}}
		if !impl.DeepOk(p) {
			t.Error("not ok")
		}
		if p.Methods[place] = bad; impl.DeepOk(p) {
			t.Errorf("ok, but not method %d", place)
		}
	}
}

// A program that is not ok has nothing of this, even of methods that would be fine.
func TestDeepOfProgramThatIsNotOk(t *testing.T) {
	good := impl.Method{Ops: []impl.Op{{Kind: impl.OpNum}, {Kind: impl.OpRet}}}
	if !impl.DeepOk(impl.Prog{Methods: []impl.Method{good}}) {
		t.Error("not ok")
	}
	for i, p := range []impl.Prog{
		{},
		{Methods: []impl.Method{}},
		{Methods: []impl.Method{good, good, good, good, good}},
		{Methods: []impl.Method{{Args: 1, Temps: 1, Ops: good.Ops}, good}},
		{Methods: []impl.Method{good, {Args: 3, Temps: 3, Ops: good.Ops}}},
		{Methods: []impl.Method{good, {Temps: -1, Ops: good.Ops}}},
		{Methods: []impl.Method{good, {Ops: append(opsOf(14, impl.Op{Kind: impl.OpJump}), good.Ops...)}}},
		{Methods: []impl.Method{good, {Ops: []impl.Op{{Kind: impl.OpNum}, {Kind: impl.OpRet}, {Kind: 19}}}}},
		{Methods: []impl.Method{good, {Ops: []impl.Op{{Kind: impl.OpNum}, {Kind: impl.OpRet}, {Kind: impl.OpCall, A: 2}}}}},
		{Methods: []impl.Method{good, {Ops: []impl.Op{{Kind: impl.OpJump, A: 1}}}}},
		{Methods: []impl.Method{good, {Ops: []impl.Op{{Kind: impl.OpJump, A: math.MinInt}}}}},
	} {
		if impl.DeepOk(p) {
			t.Errorf("program %d is ok", i)
		}
		for method := range 5 {
			checkNoDeep(t, p, method)
		}
	}
}

func checkNoDeep(t *testing.T, p impl.Prog, method int) {
	t.Helper()
	if at, ok := impl.DeepAt(p, method); ok || len(at) != 0 {
		t.Errorf("method %d of %v: %v, %v", method, p, at, ok)
	}
	if most := impl.DeepMost(p, method); most != -1 {
		t.Errorf("method %d of %v: at most %d", method, p, most)
	}
}

func TestDeepOfNoMethod(t *testing.T) {
	p := deepMethod(t, "num 1", "ret")
	for _, method := range []int{math.MinInt, -4, -1, 4, 5, math.MaxInt} {
		checkNoDeep(t, p, method)
	}
	for method := range 4 {
		if _, ok := impl.DeepAt(p, method); !ok {
			t.Errorf("method %d has no DeepAt", method)
		}
	}
}

// P9. A method more changes nothing of others; one without operations has no DeepAt.
func TestMethodMoreChangesNothingOfOthers(t *testing.T) {
	for _, p := range deepProgs() {
		last := len(p.Methods)
		for _, m := range []impl.Method{
			{},
			{Args: 2, Temps: 4, Ops: []impl.Op{{Kind: impl.OpJump}}},
			{Ops: []impl.Op{{Kind: impl.OpAdd}}},
			{Args: 1, Temps: 1, Ops: []impl.Op{{Kind: impl.OpTemp}, {Kind: impl.OpCall, A: last}, {Kind: impl.OpRet}}},
		} {
			q := copyProg(p)
			q.Methods = append(q.Methods, m)
			if last == 4 {
				checkNoDeep(t, q, 0)
				continue
			}
			checkSameDeep(t, p, q)
			_, ok := impl.DeepAt(q, last)
			if ok != (len(m.Ops) > 0 && m.Ops[0].Kind != impl.OpAdd) || impl.DeepOk(q) != (ok && impl.DeepOk(p)) {
				t.Fatalf("%q with %v more: %v, %v", impl.ProgText(p), m, ok, impl.DeepOk(q))
			}
		}
	}
}

// checkSameDeep asks whether all methods of p are told of in q as in p.
func checkSameDeep(t *testing.T, p, q impl.Prog) {
	t.Helper()
	for method := range p.Methods {
		a, aOk := impl.DeepAt(p, method)
		b, bOk := impl.DeepAt(q, method)
		if aOk != bOk || !slices.Equal(a, b) || impl.DeepMost(p, method) != impl.DeepMost(q, method) {
			t.Fatalf("method %d of %q: %v, %v, and of %q: %v, %v", method, impl.ProgText(p), a, aOk, impl.ProgText(q), b, bOk)
		}
	}
}

func TestMethodWithoutOperations(t *testing.T) {
	empty := impl.Prog{Methods: []impl.Method{{}, {Ops: []impl.Op{}}, {Args: 2, Temps: 4}, {Ops: []impl.Op{{Kind: impl.OpCall}, {Kind: impl.OpRet}}}}}
	for method := range 3 {
		checkNoDeep(t, empty, method)
	}
	if at, ok := impl.DeepAt(empty, 3); !ok || !slices.Equal(at, []int{0, 1}) {
		t.Errorf("beside methods without operations: %v, %v", at, ok)
	}
	if impl.DeepOk(empty) {
		t.Error("ok with methods without operations")
	}
}

// An answer is new memory each time, and a program is not written into, nor behind its end.
func TestDeepKeepsAndSharesNothing(t *testing.T) {
	ops := opsOf(14, impl.Op{Kind: impl.OpDrop})
	ops[0], ops[1] = impl.Op{Kind: impl.OpNum, A: 5}, impl.Op{Kind: impl.OpRet}
	before := slices.Clone(ops)
	methods := []impl.Method{{Ops: ops[:2]}, {Args: 9}}
	p := impl.Prog{Methods: methods[:1]}
	first, _ := impl.DeepAt(p, 0)
	spare := first[:cap(first)]
	for i := range spare {
		spare[i] = 77
	}
	if second, ok := impl.DeepAt(p, 0); !ok || !slices.Equal(second, []int{0, 1}) {
		t.Errorf("%v, %v", second, ok)
	}
	impl.DeepMost(p, 0)
	impl.DeepOk(p)
	if !slices.Equal(ops, before) || len(methods[0].Ops) != 2 || methods[1].Args != 9 {
		t.Errorf("%v, %v", ops, methods)
	}
}
