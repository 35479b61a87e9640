package tests

import (
	"math/rand"
	"slices"
	"strings"

	"loop.example/gemel/impl"
)

// kindRow is the document's table of kinds, written down once more so that the program is held against it.
type kindRow struct {
	kind   int
	word   string
	takes  int
	leaves int
	owns   string
}

var kindRows = []kindRow{
	{1, "num", 0, 1, "number"},
	{2, "temp", 0, 1, "temp"},
	{3, "set", 1, 0, "temp"},
	{4, "drop", 1, 0, ""},
	{5, "add", 2, 1, ""},
	{6, "same", 2, 1, ""},
	{7, "jump", 0, 0, "operation"},
	{8, "zero", 1, 0, "operation"},
	{9, "call", -1, 1, "method"},
	{10, "ret", 1, 0, ""},
	{11, "here", 0, 1, ""},
	{12, "sender", 1, 1, ""},
	{13, "peek", 1, 1, "any temp"},
	{14, "poke", 2, 0, "any temp"},
	{15, "back", 2, 1, ""},
	{16, "say", 1, 0, ""},
	{17, "dead", 1, 1, ""},
	{18, "where", 1, 1, ""},
}

// ownedBy is how many A an operation of that row may have, from 0 on.
func ownedBy(row kindRow, p impl.Prog, m impl.Method) int {
	switch row.owns {
	case "number":
		return 100
	case "temp":
		return m.Temps
	case "operation":
		return len(m.Ops)
	case "method":
		return len(p.Methods)
	case "any temp":
		return 4
	}
	return 1
}

// sameProg holds two programs against each other; a nil list is an empty one.
func sameProg(a, b impl.Prog) bool {
	return slices.EqualFunc(a.Methods, b.Methods, func(x, y impl.Method) bool {
		return x.Args == y.Args && x.Temps == y.Temps && slices.Equal(x.Ops, y.Ops)
	})
}

func copyProg(p impl.Prog) impl.Prog {
	var out impl.Prog
	for _, m := range p.Methods {
		m.Ops = slices.Clone(m.Ops)
		out.Methods = append(out.Methods, m)
	}
	return out
}

func opsOf(n int, op impl.Op) []impl.Op {
	return slices.Repeat([]impl.Op{op}, n)
}

// randomProg is an ok program; its operations are chosen by the table, whatever they do.
func randomProg(r *rand.Rand) impl.Prog {
	p := impl.Prog{Methods: make([]impl.Method, 1+r.Intn(4))}
	for i := range p.Methods {
		m := &p.Methods[i]
		if i > 0 {
			m.Args = r.Intn(3)
		}
		m.Temps = m.Args + r.Intn(5-m.Args)
		m.Ops = make([]impl.Op, r.Intn(15))
	}
	for _, m := range p.Methods {
		for j := range m.Ops {
			row := kindRows[r.Intn(len(kindRows))]
			for ownedBy(row, p, m) == 0 {
				row = kindRows[r.Intn(len(kindRows))]
			}
			m.Ops[j] = impl.Op{Kind: row.kind, A: r.Intn(ownedBy(row, p, m))}
		}
	}
	return p
}

// manyProgs are programs that are ok: small ones, ones at the limits, and many others, the same ones at each run.
func manyProgs() []impl.Prog {
	out := []impl.Prog{
		{Methods: []impl.Method{{}}},
		{Methods: []impl.Method{{Temps: 4}}},
		{Methods: []impl.Method{{}, {Args: 2, Temps: 2}, {Args: 2, Temps: 4}, {Args: 1, Temps: 1}}},
		{Methods: []impl.Method{{Ops: opsOf(14, impl.Op{Kind: impl.OpNum, A: 99})}}},
		longestProg(),
	}
	for _, row := range kindRows {
		p := impl.Prog{Methods: []impl.Method{{Temps: 4, Ops: make([]impl.Op, 14)}, {}, {}, {}}}
		for a := range ownedBy(row, p, p.Methods[0]) {
			p.Methods[0].Ops = opsOf(14, impl.Op{Kind: row.kind, A: a})
			out = append(out, copyProg(p))
		}
	}
	r := rand.New(rand.NewSource(1))
	for range 500 {
		out = append(out, randomProg(r))
	}
	return out
}

// longestProg is one of those whose text is the longest.
func longestProg() impl.Prog {
	var p impl.Prog
	for range 4 {
		p.Methods = append(p.Methods, impl.Method{Temps: 4, Ops: opsOf(14, impl.Op{Kind: impl.OpZero, A: 13})})
	}
	return p
}

func longestText() string {
	return strings.Repeat("method 0 4\n"+strings.Repeat("zero 13\n", 14), 4)
}

// eachKindText is a program with an operation of each kind.
const eachKindText = "method 0 3\nnum 0\nnum 99\ntemp 2\nset 0\ndrop\nadd\nsame\njump 11\nzero 0\ncall 1\nret\nhere\n" +
	"method 1 2\nsender\npeek 3\npoke 3\nback\nsay\ndead\nwhere\n" +
	"method 2 4\n"

// noProgTexts are texts that are none of a program.
func noProgTexts() []string {
	return []string{
		"", "\n", " ", "m", "method", "method\n", "method 0\n", "method 0 \n", "method 0 0", "method 0 0 \n", "method 0 0 0\n",
		"method  0 0\n", " method 0 0\n", "\nmethod 0 0\n", "method 0 0\n\n", "method 0 0\r\n", "method\t0 0\n", "Method 0 0\n",
		"methods 0 0\n", "method 00 0\n", "method 0 01\n", "method -0 0\n", "method +0 0\n", "method 0 -1\n", "method 0 5\n",
		"method 1 1\n", "method 0 0\nmethod 2 1\n", "method 0 0\nmethod 3 3\n", "method 0 0\nmethod -1 0\n",
		"ret\n", "ret\nmethod 0 0\n", "method 0 0\nret", "method 0 0\nret \n", "method 0 0\n ret\n", "method 0 0\nret 0\n",
		"method 0 0\nret ret\n", "method 0 0\nret\n\nret\n", "method 0 0\nRET\n", "method 0 0\nre\n", "method 0 0\nrets\n", "method 0 0\n0\n", "method 0 0\n 0\n",
		"method 0 0\nnum\n", "method 0 0\nnum \n", "method 0 0\nnum 100\n", "method 0 0\nnum -1\n", "method 0 0\nnum 07\n", "method 0 0\nnum 1 1\n",
		"method 0 0\nnum 0x1\n", "method 0 0\nnum 1.0\n", "method 0 0\nnum 1e1\n", "method 0 0\nnum 1_0\n", "method 0 0\nnum\u00a01\n",
		"method 0 0\nnum \u0661\n", "method 0 0\nnum \uff11\n", "method 0 0\nn\u00fcm 1\n", "method 0 0\nnum 1\u2028", "\ufeffmethod 0 0\n",
		"method 0 0\nnum 18446744073709551616\n", "method 0 0\nnum 18446744073709551617\n", "method 0 0\nnum 4294967297\n",
		"method 0 0\nnum 1\x00\n", "method 0 0\nnum \xff\n", "method 0 0\n\xffret\n", "method 0 0\xe2\x82\n",
		"method 0 1\ntemp 1\n", "method 0 0\ntemp 0\n", "method 0 1\nset 1\n", "method 0 0\njump 1\n", "method 0 0\nzero 1\n", "method 0 0\ncall 1\n",
		"method 0 4\nhere\npeek 4\n", "method 0 4\nhere\nnum 1\npoke 4\n", "method 0 0\nwhat\n",
		strings.Repeat("method 0 0\n", 5), "method 0 0\n" + strings.Repeat("here\n", 15),
		longestText() + "\n", longestText() + "here\n", "method 0 0\nnum " + strings.Repeat("0", 700) + "\n", strings.Repeat("m", 701),
		strings.Repeat(longestText(), 2), strings.Repeat("\xff", 1<<16),
	}
}
