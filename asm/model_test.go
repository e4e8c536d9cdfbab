package asm_test

import (
	"math/big"
	"math/rand/v2"
	"regexp"
	"strconv"
	"strings"
	"testing"

	"vault/api"
	"vault/asm"
	"vault/isa"
)

// The chapter's words as patterns, over tokens with one blank between each two.
const (
	namePattern     = `[A-Za-z._][A-Za-z0-9._]*`
	registerPattern = `x(?:[0-9]|[12][0-9]|3[01])`
	numberPattern   = `-?(?:[0-9]{1,10}|0x[0-9a-fA-F]{1,8})`
)

var (
	tokenForm = regexp.MustCompile(`[A-Za-z0-9._-]+|[^ \t]`)
	nameForm  = regexp.MustCompile(`^` + namePattern + `$`)
	wordForm  = regexp.MustCompile(`^\.word (` + numberPattern + `)$`)
	liForm    = regexp.MustCompile(`^li (` + registerPattern + `) , (` + numberPattern + `)$`)
	opForms   = allOpForms()
)

func allOpForms() [api.Ops + 1]*regexp.Regexp {
	operand := map[rune]string{
		'd': `(?P<d>` + registerPattern + `)`,
		's': `(?P<s>` + registerPattern + `)`,
		't': `(?P<t>` + registerPattern + `)`,
		'i': `(?P<i>` + numberPattern + `)`,
		'j': `(?:(?P<i>` + numberPattern + `)|(?P<label>` + namePattern + `))`,
		'm': `(?P<i>` + numberPattern + `) \( (?P<s>` + registerPattern + `) \)`,
	}
	var all [api.Ops + 1]*regexp.Regexp
	for op := 1; op <= api.Ops; op++ {
		var parts []string
		for _, letter := range api.Shape(op) {
			parts = append(parts, operand[letter])
		}
		text := api.Name(op)
		if len(parts) > 0 {
			text += " " + strings.Join(parts, " , ")
		}
		all[op] = regexp.MustCompile("^" + text + "$")
	}
	return all
}

// parsed is what a pattern found of a statement.
type parsed struct {
	op     int // 0: none; -1: .word; -2: li
	ins    api.Ins
	number *big.Int
	label  string
	ahead  int
}

func numberIn(text string) *big.Int {
	n, _ := new(big.Int).SetString(text, 0)
	if n == nil || !strings.Contains(text, "x") { // noughts ahead are no sign of the base 8
		n, _ = new(big.Int).SetString(text, 10)
	}
	return n
}

func registerIn(text string) int {
	n, _ := strconv.Atoi(strings.TrimPrefix(text, "x"))
	return n
}

func parseModel(tokens []string) (parsed, api.Errno) {
	text := strings.Join(tokens, " ")
	switch {
	case len(tokens) == 0:
		return parsed{}, api.OK
	case tokens[0] == ".word":
		if m := wordForm.FindStringSubmatch(text); m != nil {
			return parsed{op: -1, number: numberIn(m[1])}, api.OK
		}
		return parsed{}, api.ErrForm
	case tokens[0] == "li":
		if m := liForm.FindStringSubmatch(text); m != nil {
			return parsed{op: -2, ins: api.Ins{Rd: registerIn(m[1])}, number: numberIn(m[2])}, api.OK
		}
		return parsed{}, api.ErrForm
	}
	for op := 1; op <= api.Ops; op++ {
		if api.Name(op) == tokens[0] {
			return parseOp(op, text)
		}
	}
	return parsed{}, api.ErrWord
}

func parseOp(op int, text string) (parsed, api.Errno) {
	m := opForms[op].FindStringSubmatch(text)
	if m == nil {
		return parsed{}, api.ErrForm
	}
	p := parsed{op: op, ins: api.Ins{Op: op}}
	for i, group := range opForms[op].SubexpNames() {
		switch {
		case m[i] == "":
		case group == "d":
			p.ins.Rd = registerIn(m[i])
		case group == "s":
			p.ins.Rs1 = registerIn(m[i])
		case group == "t":
			p.ins.Rs2 = registerIn(m[i])
		case group == "i":
			p.number = numberIn(m[i])
		case group == "label":
			p.label = m[i]
		}
	}
	return p, api.OK
}

// model is Assemble by patterns; texts are of bytes below 128.
func model(text string) (string, api.Errno, int) {
	lines := strings.Split(text, "\n")
	if len(text) > 20000 || len(lines) > 2000 {
		return "", api.ErrLong, 0
	}
	labels := map[string]int{}
	var all []parsed
	ahead := 0
	for n, l := range lines {
		tokens := tokenForm.FindAllString(strings.SplitN(l, "#", 2)[0], -1)
		if len(tokens) > 1 && tokens[1] == ":" {
			if !nameForm.MatchString(tokens[0]) {
				return "", api.ErrWord, n + 1
			}
			if _, there := labels[tokens[0]]; there {
				return "", api.ErrTwice, n + 1
			}
			labels[tokens[0]] = ahead
			tokens = tokens[2:]
		}
		p, e := parseModel(tokens)
		if e != api.OK {
			return "", e, n + 1
		}
		p.ahead = ahead
		all = append(all, p)
		ahead += map[bool]int{true: 4}[p.op != 0] + map[bool]int{true: 4}[p.op == -2]
	}
	code := ""
	for n, p := range all {
		words, e := wordsOf(p, labels)
		if e != api.OK {
			return "", e, n + 1
		}
		code += bytesOf(words...)
	}
	return code, api.OK, 0
}

func wordsOf(p parsed, labels map[string]int) ([]uint32, api.Errno) {
	switch {
	case p.op == 0:
		return nil, api.OK
	case p.op < 0:
		if p.number.Cmp(big.NewInt(-1<<31)) < 0 || p.number.Cmp(big.NewInt(1<<32-1)) > 0 {
			return nil, api.ErrRange
		}
		n := new(big.Int).Mod(p.number, big.NewInt(1<<32)).Int64()
		if p.op == -1 {
			return []uint32{uint32(n)}, api.OK
		}
		low := n % 4096
		if low >= 2048 {
			low -= 4096
		}
		high := (n - low) / 4096 % (1 << 20)
		if high >= 1<<19 {
			high -= 1 << 20
		}
		lui, _ := isa.Encode(api.Ins{Op: 1, Rd: p.ins.Rd, Imm: int(high)})
		addi, _ := isa.Encode(api.Ins{Op: 19, Rd: p.ins.Rd, Rs1: p.ins.Rd, Imm: int(low)})
		return []uint32{lui, addi}, api.OK
	}
	if p.number != nil {
		p.ins.Imm = int(p.number.Int64())
	}
	if p.label != "" {
		worth, there := labels[p.label]
		if !there {
			return nil, api.ErrName
		}
		p.ins.Imm = worth - p.ahead
	}
	w, e := isa.Encode(p.ins)
	if e != api.OK {
		return nil, api.ErrRange
	}
	return []uint32{w}, api.OK
}

// maker makes texts, most of which are nearly right.
type maker struct {
	*rand.Rand
}

func (m maker) of(choices ...string) string {
	return choices[m.IntN(len(choices))]
}

func (m maker) number() string {
	return m.of("0", "4", "-4", "8", "31", "32", "2047", "2048", "-2048", "-2049", "0x7fe", "4094", "-4096", "1048574", "524287", "-524288", "0xffffffff", "4294967296", "-2147483648", "-0x80000001", "007", "12345678901", "0x123456789", strconv.Itoa(m.IntN(8000)-4000), strconv.Itoa(m.IntN(1<<32)))
}

func (m maker) register() string {
	if m.IntN(20) == 0 {
		return m.of("x32", "x01", "X1", "x", "x-1")
	}
	return "x" + strconv.Itoa(m.IntN(32))
}

func (m maker) name() string {
	return m.of("a", "b", "c", "_d", ".e", "x5", "ecall", "A9")
}

func (m maker) operand(letter rune) []string {
	switch letter {
	case 'i':
		return []string{m.number()}
	case 'j':
		return []string{m.of(m.number(), m.name())}
	case 'm':
		return []string{m.number(), "(", m.register(), ")"}
	}
	return []string{m.register()}
}

func (m maker) statement() []string {
	switch m.IntN(8) {
	case 0:
		return nil
	case 1:
		return []string{".word", m.number()}
	case 2:
		return []string{"li", m.register(), ",", m.number()}
	}
	op := 1 + m.IntN(api.Ops)
	all := []string{api.Name(op)}
	for i, letter := range api.Shape(op) {
		if i > 0 {
			all = append(all, ",")
		}
		all = append(all, m.operand(letter)...)
	}
	return all
}

func (m maker) line() string {
	tokens := m.statement()
	if m.IntN(3) == 0 {
		name := m.name() + m.of("", "1", "2")
		if m.IntN(30) == 0 {
			name = m.of("9a", "a-b", "-", ":", "(", "0x1")
		}
		tokens = append([]string{name, ":"}, tokens...)
	}
	if m.IntN(12) == 0 && len(tokens) > 0 {
		at := m.IntN(len(tokens))
		odd := m.of(",", ":", "(", ")", "x1", "5", "a", "-", "nop", "\r", "~")
		switch m.IntN(3) {
		case 0:
			tokens = append(tokens[:at], tokens[at+1:]...)
		case 1:
			tokens[at] = odd
		case 2:
			tokens = append(tokens[:at], append([]string{odd}, tokens[at:]...)...)
		}
	}
	text := m.of("", " ", "\t")
	for i, token := range tokens {
		if i > 0 {
			text += m.of(" ", "\t", "  ")
			if m.IntN(40) == 0 {
				text = strings.TrimRight(text, " \t")
			}
		}
		text += token
	}
	return text + m.of("", "", " ", "#", " # a: nop", "\t")
}

func TestAgainstModel(t *testing.T) {
	m := maker{rand.New(rand.NewPCG(2, 5))}
	told := map[api.Errno]int{}
	for range 60000 {
		lines := make([]string, 1+m.IntN(6))
		for i := range lines {
			lines[i] = m.line()
		}
		text := strings.Join(lines, "\n")
		b, e, line := asm.Assemble(text)
		wantB, wantE, wantLine := model(text)
		if b != wantB || e != wantE || line != wantLine {
			t.Fatalf("Assemble(%q) is %x, %d, %d, wanted %x, %d, %d", text, b, e, line, wantB, wantE, wantLine)
		}
		told[e]++
	}
	for _, e := range []api.Errno{api.OK, api.ErrWord, api.ErrTwice, api.ErrForm, api.ErrRange, api.ErrName} {
		if told[e] < 200 {
			t.Errorf("only %d texts told %d", told[e], e)
		}
	}
	t.Log(told)
}

// FuzzAssemble: whatever it is given, a call ends, and tells what the patterns tell.
func FuzzAssemble(f *testing.F) {
	for _, text := range []string{"", "a: jal x0, a", "li x1, 0x800\nlw x1, 4(x2) # four", "b:\nb:", "beq x1, x2, c\n.word -1", "\xff:", "\r"} {
		f.Add(text)
	}
	f.Fuzz(func(t *testing.T, text string) {
		b, e, line := asm.Assemble(text)
		// One byte that is no ASCII is as wrong as another.
		plain := []byte(text)
		for i := range plain {
			if plain[i] > 127 {
				plain[i] = '~'
			}
		}
		wantB, wantE, wantLine := model(string(plain))
		if b != wantB || e != wantE || line != wantLine {
			t.Errorf("Assemble(%q) is %x, %d, %d, wanted %x, %d, %d", text, b, e, line, wantB, wantE, wantLine)
		}
	})
}
