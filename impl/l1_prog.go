// Package impl: calls on pages, and as things of their own when looked at.
package impl

import "strconv"

// Kinds of operations.
const (
	OpNum    = 1
	OpTemp   = 2
	OpSet    = 3
	OpDrop   = 4
	OpAdd    = 5
	OpSame   = 6
	OpJump   = 7
	OpZero   = 8
	OpCall   = 9
	OpRet    = 10
	OpHere   = 11
	OpSender = 12
	OpPeek   = 13
	OpPoke   = 14
	OpBack   = 15
	OpSay    = 16
	OpDead   = 17
	OpWhere  = 18
)

// Limits of programs.
const (
	ProgMethods = 4
	ProgOps     = 14
	ProgTemps   = 4
	ProgArgs    = 2
	ProgNums    = 99
)

// Op is an operation, and what belongs to it.
type Op struct {
	Kind int
	A    int
}

// Method is how many arguments there are, how many temps with these, and operations.
type Method struct {
	Args  int
	Temps int
	Ops   []Op
}

// Prog is methods; the first one is called first.
type Prog struct {
	Methods []Method
}

// progBytes is how long a text that is read may be.
const progBytes = 700

// methodWord begins the line of a method.
const methodWord = "method"

// opForm is how an operation is written, and how many values it takes and leaves.
type opForm struct {
	word   string
	takes  int
	leaves int
}

// What a call takes is told by its method, not here.
var opForms = [OpWhere + 1]opForm{
	OpNum:    {"num", 0, 1},
	OpTemp:   {"temp", 0, 1},
	OpSet:    {"set", 1, 0},
	OpDrop:   {"drop", 1, 0},
	OpAdd:    {"add", 2, 1},
	OpSame:   {"same", 2, 1},
	OpJump:   {"jump", 0, 0},
	OpZero:   {"zero", 1, 0},
	OpCall:   {"call", 0, 1},
	OpRet:    {"ret", 1, 0},
	OpHere:   {"here", 0, 1},
	OpSender: {"sender", 1, 1},
	OpPeek:   {"peek", 1, 1},
	OpPoke:   {"poke", 2, 0},
	OpBack:   {"back", 2, 1},
	OpSay:    {"say", 1, 0},
	OpDead:   {"dead", 1, 1},
	OpWhere:  {"where", 1, 1},
}

// operand is what belongs to an operation: its A, and what that is a number of.
type operand interface {
	// fits says whether there is such a thing, for an operation of the method m of p.
	fits(p Prog, m Method) bool
}

type (
	noOperand     int
	numOperand    int
	tempOperand   int
	placeOperand  int
	methodOperand int
	peekOperand   int
)

func (o noOperand) fits(p Prog, m Method) bool     { return o == 0 }
func (o numOperand) fits(p Prog, m Method) bool    { return isPlace(int(o), ProgNums+1) }
func (o tempOperand) fits(p Prog, m Method) bool   { return isPlace(int(o), m.Temps) }
func (o placeOperand) fits(p Prog, m Method) bool  { return isPlace(int(o), len(m.Ops)) }
func (o methodOperand) fits(p Prog, m Method) bool { return isPlace(int(o), len(p.Methods)) }

// The call that is looked at is of any method, so its own temps are not asked.
func (o peekOperand) fits(p Prog, m Method) bool { return isPlace(int(o), ProgTemps) }

func isPlace(n int, size int) bool {
	return 0 <= n && n < size
}

func isKind(kind int) bool {
	return OpNum <= kind && kind <= OpWhere
}

// operandOf is what belongs to an operation that is of a Kind.
func operandOf(op Op) operand {
	switch op.Kind {
	case OpNum:
		return numOperand(op.A)
	case OpTemp, OpSet:
		return tempOperand(op.A)
	case OpJump, OpZero:
		return placeOperand(op.A)
	case OpCall:
		return methodOperand(op.A)
	case OpPeek, OpPoke:
		return peekOperand(op.A)
	}
	return noOperand(op.A)
}

// operandText is what is written behind an operation's word.
func operandText(op Op) string {
	switch operandOf(op).(type) {
	case noOperand:
		return ""
	}
	return numberText(op.A)
}

func numberText(n int) string {
	return " " + strconv.Itoa(n)
}

// ProgOk says whether a program is ok.
func ProgOk(p Prog) bool {
	if len(p.Methods) == 0 || len(p.Methods) > ProgMethods || p.Methods[0].Args != 0 {
		return false
	}
	for _, m := range p.Methods {
		if !methodOk(p, m) {
			return false
		}
	}
	return true
}

func methodOk(p Prog, m Method) bool {
	if m.Args < 0 || m.Args > ProgArgs || m.Temps < m.Args || m.Temps > ProgTemps || len(m.Ops) > ProgOps {
		return false
	}
	for _, op := range m.Ops {
		if !isKind(op.Kind) || !operandOf(op).fits(p, m) {
			return false
		}
	}
	return true
}

// ProgText writes a program.
func ProgText(p Prog) string {
	if !ProgOk(p) {
		return ""
	}
	text := ""
	for _, m := range p.Methods {
		text += methodText(m)
	}
	return text
}

func methodText(m Method) string {
	text := methodWord + numberText(m.Args) + numberText(m.Temps) + "\n"
	for _, op := range m.Ops {
		text += opForms[op.Kind].word + operandText(op) + "\n"
	}
	return text
}

// ProgRead reads a program.
func ProgRead(text string) (Prog, bool) {
	if len(text) > progBytes {
		return Prog{}, false
	}
	p, ok := readMethods([]rune(text))
	// Needless zeros, and numbers where none belong or that are left out, are read; it is not written so again.
	if !ok || !ProgOk(p) || ProgText(p) != text {
		return Prog{}, false
	}
	return p, true
}

func readMethods(runes []rune) (Prog, bool) {
	var p Prog
	for len(runes) > 0 {
		word, nums, rest, ok := readLine(runes)
		if !ok {
			return Prog{}, false
		}
		if p, ok = withLine(p, word, nums); !ok {
			return Prog{}, false
		}
		runes = rest
	}
	return p, true
}

// readLine is the word and the numbers of the first line, and what is behind it.
func readLine(runes []rune) (string, []int, []rune, bool) {
	word, rest := readWord(runes)
	var nums []int
	for len(rest) > 0 && rest[0] == ' ' {
		n, behind, ok := readNumber(rest[1:])
		if !ok {
			return "", nil, nil, false
		}
		nums, rest = append(nums, n), behind
	}
	if len(rest) == 0 || rest[0] != '\n' {
		return "", nil, nil, false
	}
	return word, nums, rest[1:], true
}

func readWord(runes []rune) (string, []rune) {
	size := 0
	for size < len(runes) && 'a' <= runes[size] && runes[size] <= 'z' {
		size++
	}
	return string(runes[:size]), runes[size:]
}

// readNumber takes none above ProgNums: no program has one, and so it cannot wrap round.
func readNumber(runes []rune) (int, []rune, bool) {
	n, size := 0, 0
	for size < len(runes) && '0' <= runes[size] && runes[size] <= '9' {
		n = n*10 + int(runes[size]-'0')
		if n > ProgNums {
			return 0, nil, false
		}
		size++
	}
	return n, runes[size:], size > 0
}

// withLine is a program with a line more: a new method, or an operation of the last one.
func withLine(p Prog, word string, nums []int) (Prog, bool) {
	if word == methodWord {
		if len(nums) != 2 {
			return Prog{}, false
		}
		p.Methods = append(p.Methods, Method{Args: nums[0], Temps: nums[1]})
		return p, true
	}
	op, ok := opOfLine(word, nums)
	last := len(p.Methods) - 1
	if !ok || last < 0 {
		return Prog{}, false
	}
	p.Methods[last].Ops = append(p.Methods[last].Ops, op)
	return p, true
}

func opOfLine(word string, nums []int) (Op, bool) {
	kind := kindOfWord(word)
	if !isKind(kind) || len(nums) > 1 {
		return Op{}, false
	}
	if len(nums) == 0 {
		return Op{Kind: kind}, true
	}
	return Op{Kind: kind, A: nums[0]}, true
}

// kindOfWord is 0, if no operation is written so.
func kindOfWord(word string) int {
	for kind := OpNum; kind <= OpWhere; kind++ {
		if opForms[kind].word == word {
			return kind
		}
	}
	return 0
}

// OpTakes is how many values an operation takes, and how many it leaves.
func OpTakes(p Prog, op Op) (int, int) {
	if !isKind(op.Kind) {
		return 0, 0
	}
	form := opForms[op.Kind]
	if op.Kind != OpCall {
		return form.takes, form.leaves
	}
	if !isPlace(op.A, len(p.Methods)) {
		return 0, 0
	}
	return p.Methods[op.A].Args, form.leaves
}
