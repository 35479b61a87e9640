package tests

import (
	"math/rand"
	"strings"
	"testing"

	"loop.example/gemel/impl"
)

// deepMethod is a program whose method 0 is these operations; behind it are methods of no, one and two arguments.
func deepMethod(t *testing.T, ops ...string) impl.Prog {
	t.Helper()
	text := "method 0 4\n" + strings.Join(ops, "\n") + "\nmethod 0 0\nnum 0\nret\nmethod 1 1\ntemp 0\nret\nmethod 2 2\ntemp 1\nret\n"
	p, ok := impl.ProgRead(text)
	if !ok {
		t.Fatalf("%q is not read", text)
	}
	return p
}

// nums are so many values, each put by an operation of its own.
func nums(n int, behind ...string) []string {
	var out []string
	for range n {
		out = append(out, "num 0")
	}
	return append(out, behind...)
}

// rowTakes is what the table says that an operation takes.
func rowTakes(p impl.Prog, op impl.Op) int {
	if op.Kind == impl.OpCall {
		return p.Methods[op.A].Args
	}
	return kindRows[op.Kind-1].takes
}

// nextBehind is the document's Next, a place behind the end included.
func nextBehind(op impl.Op, at int) []int {
	switch op.Kind {
	case impl.OpRet:
		return nil
	case impl.OpJump:
		return []int{op.A}
	case impl.OpZero:
		return []int{at + 1, op.A}
	}
	return []int{at + 1}
}

// everyWay is what DeepAt must tell of an ok program's method, found in another way: all pairs of an operation and a number of values
// that one can come to are told first, and only then is looked whether one of them may not be.
func everyWay(p impl.Prog, method int) ([]int, bool) {
	ops := p.Methods[method].Ops
	type pair struct{ at, values int }
	met := map[pair]bool{}
	fine := true
	var come func(x pair)
	come = func(x pair) {
		if x.at >= len(ops) {
			fine = false
			return
		}
		if met[x] {
			return
		}
		met[x] = true
		takes := rowTakes(p, ops[x.at])
		left := x.values - takes + kindRows[ops[x.at].Kind-1].leaves
		if x.values < takes || left > 6 {
			fine = false
			return
		}
		for _, next := range nextBehind(ops[x.at], x.at) {
			come(pair{next, left})
		}
	}
	come(pair{0, 0})
	out := make([]int, len(ops))
	for at := range ops {
		out[at] = -1
		for values := range 7 {
			if met[pair{at, values}] {
				fine = fine && out[at] == -1
				out[at] = values
			}
		}
	}
	if !fine {
		return nil, false
	}
	return out, true
}

// likelyProg is an ok program whose methods often have a DeepAt: operations mostly find the values they take, if one goes straight on.
func likelyProg(r *rand.Rand) impl.Prog {
	p := impl.Prog{Methods: make([]impl.Method, 1+r.Intn(4))}
	for i := range p.Methods {
		m := &p.Methods[i]
		if i > 0 {
			m.Args = r.Intn(3)
		}
		m.Temps = m.Args + r.Intn(5-m.Args)
		m.Ops = make([]impl.Op, 2+r.Intn(13))
	}
	for _, m := range p.Methods {
		values := 0
		for j := range m.Ops {
			m.Ops[j] = likelyOp(r, p, m, values)
			if j == len(m.Ops)-1 && r.Intn(20) > 0 {
				m.Ops[j] = impl.Op{Kind: impl.OpRet}
			}
			row := kindRows[m.Ops[j].Kind-1]
			values += row.leaves - rowTakes(p, m.Ops[j])
		}
	}
	return p
}

func likelyOp(r *rand.Rand, p impl.Prog, m impl.Method, values int) impl.Op {
	for {
		row := kindRows[r.Intn(len(kindRows))]
		places := ownedBy(row, p, m)
		if places == 0 {
			continue
		}
		op := impl.Op{Kind: row.kind, A: r.Intn(places)}
		takes := rowTakes(p, op)
		if r.Intn(100) == 0 || takes <= values && values-takes+row.leaves <= 6 {
			return op
		}
	}
}

// deepProgs are ok programs, many of which have a DeepAt, the same ones at each run.
func deepProgs() []impl.Prog {
	out := manyProgs()
	r := rand.New(rand.NewSource(2))
	for range 3000 {
		out = append(out, likelyProg(r))
	}
	return out
}
