package spec_test

import (
	"math/big"
	"math/rand"
	"regexp"
	"slices"
	"strconv"
	"strings"
	"testing"

	"vault/api"
	"vault/asm"
	"vault/spec"
)

// The chapter's words as patterns, and what they are wanted for.
var (
	wordForm   = regexp.MustCompile(`[^ \t]+`)
	numberForm = regexp.MustCompile(`^(?:[0-9]+|0x[0-9a-fA-F]+)$`)
	nameForm   = regexp.MustCompile(`^[A-Za-z_][A-Za-z0-9_]{0,31}$`)
	rightsForm = regexp.MustCompile(`^(?:-|[rwgx]+)$`)
	bytesForm  = regexp.MustCompile(`^(?:[0-9a-fA-F][0-9a-fA-F])+$`)
	stopForm   = regexp.MustCompile(`^[ \t]*stop[ \t]*$`)
	setForm    = regexp.MustCompile(`^x([1-9]|[12][0-9]|3[01])$`)
)

// grammar is the chapter's table: of each first word what stands behind it. A number alone is "number", one up to n "<=n"; of objects their kinds; a star: the rest of the line.
var grammar = map[string]string{
	"pages": "number", "turn": "number number", "calls": "calls*",
	"frame": "NAME <=255", "table": "NAME <=255", "root": "NAME <=255", "thread": "NAME <=255", "end": "NAME <=255", "bell": "NAME <=255",
	"box": "NAME <=255 number", "untyped": "NAME <=255 <=8", "irq": "NAME <=7", "port": "NAME <=7",
	"code": "2 number", "bytes": "2 number digits", "cap": "5,6 number any rights parts*", "map": "5,6 number 4 number rights",
	"start": "6 number number state number registers*", "bind": "9 8 number",
}

var kinds = map[string]int{"untyped": 1, "frame": 2, "table": 3, "root": 4, "box": 5, "thread": 6, "end": 7, "bell": 8, "irq": 9, "port": 10}

// model reads words by patterns; what is wrong gives up.
type model struct {
	names map[string]api.Object
	words []string
}

func must(ok bool, e api.Errno) {
	if !ok {
		panic(e)
	}
}

func (m *model) next() string {
	must(len(m.words) > 0, api.ErrForm)
	w := m.words[0]
	m.words = m.words[1:]
	return w
}

func (m *model) name() string {
	w := m.next()
	must(nameForm.MatchString(w), api.ErrForm)
	return w
}

func (m *model) number() int {
	w := m.next()
	must(numberForm.MatchString(w), api.ErrForm)
	n, base := new(big.Int), 10
	if strings.HasPrefix(w, "0x") {
		w, base = w[2:], 16
	}
	n.SetString(w, base)
	must(n.BitLen() <= 32, api.ErrForm)
	return int(n.Int64())
}

// one reads a word as a part of the grammar wants it: what it says, as a number; names say nothing.
func (m *model) one(part string) int {
	if most, ok := strings.CutPrefix(part, "<="); ok {
		n := m.number()
		limit, _ := strconv.Atoi(most)
		must(n <= limit, api.ErrRange)
		return n
	}
	switch part {
	case "number":
		return m.number()
	case "state":
		w := m.next()
		must(w == "ready" || w == "idle", api.ErrForm)
		return len(w) - 4
	case "rights":
		w := m.next()
		must(rightsForm.MatchString(w), api.ErrForm)
		r, w2, g := strings.Count(w, "r"), strings.Count(w, "w"), strings.Count(w, "g")+strings.Count(w, "x")
		must(max(r, w2, g) <= 1, api.ErrForm)
		return r + 2*w2 + 4*g
	}
	o, there := m.names[m.name()]
	must(there, api.ErrName)
	must(part == "any" || slices.Contains(strings.Split(part, ","), strconv.Itoa(o.Kind)), api.ErrKind)
	if part == "any" {
		return o.Kind*100000 + o.Num
	}
	return o.Num
}

// lines reads a text.
func (m *model) lines(text string) (s spec.Spec, e api.Errno, line int) {
	defer func() {
		if cause := recover(); cause != nil {
			s, e = spec.Spec{}, cause.(api.Errno)
		}
	}()
	must(len(text) <= 20000 && len(strings.Split(text, "\n")) <= 2000, api.ErrLong)
	m.names = map[string]api.Object{}
	s.Names = m.names
	s.Calls = 1<<30 - 2
	all := strings.Split(text, "\n")
	for i := 0; i < len(all); i++ {
		line = i + 1
		m.words = wordForm.FindAllString(strings.SplitN(all[i], "#", 2)[0], -1)
		if len(m.words) == 0 {
			continue
		}
		first := m.next()
		form, ok := grammar[first]
		must(ok, api.ErrWord)
		if first != "code" {
			m.line(&s, first, form)
			continue
		}
		n, at := m.one("2"), m.number()
		must(len(m.words) == 0, api.ErrForm)
		end := slices.IndexFunc(all[i+1:], stopForm.MatchString)
		must(end >= 0, api.ErrForm)
		data, why, bad := asm.Assemble(strings.Join(all[i+1:i+1+end], "\n"))
		if why != api.OK {
			line += bad
			panic(why)
		}
		must(at+len(data) <= 4096, api.ErrRange)
		s.Bytes = append(s.Bytes, api.BytesSpec{At: n*4096 + at, Data: data})
		i += end + 1
	}
	return s, api.OK, 0
}

// line reads what stands behind a line's first word, and lays it down.
func (m *model) line(s *spec.Spec, first, form string) {
	var v []int
	var name, data string
	var calls uint32
	c := api.CapSpec{From: none}
	var h api.ThreadSpec
	for _, part := range strings.Fields(form) {
		switch part {
		case "NAME":
			name = m.name()
			_, there := m.names[name]
			must(!there, api.ErrTwice)
		case "digits":
			data = m.next()
			must(bytesForm.MatchString(data), api.ErrForm)
			must(v[1]+len(data)/2 <= 4096, api.ErrRange)
		case "calls*":
			for len(m.words) > 0 {
				calls |= 1 << m.one("<=31")
			}
		case "parts*":
			m.parts(&c)
		case "registers*":
			for len(m.words) > 0 {
				x := setForm.FindStringSubmatch(m.next())
				must(x != nil, api.ErrForm)
				n, _ := strconv.Atoi(x[1])
				h.Context.Regs[n] = uint32(m.number())
			}
		default:
			v = append(v, m.one(part))
		}
	}
	must(len(m.words) == 0, api.ErrForm)
	switch first {
	case "pages":
		s.Pages = v[0]
	case "turn":
		s.Turns = append(s.Turns, api.Turn{Domain: v[0], Ticks: v[1]})
	case "calls":
		s.Calls = calls
	case "bytes":
		n, _ := new(big.Int).SetString("1"+data, 16)
		s.Bytes = append(s.Bytes, api.BytesSpec{At: v[0]*4096 + v[1], Data: string(n.Bytes()[1:])})
	case "cap":
		c.At = slot(v[0], v[1])
		c.Cap.Object, c.Cap.Rights = obj(v[2]/100000, v[2]%100000), v[3]
		s.Caps = append(s.Caps, c)
	case "map":
		s.Maps = append(s.Maps, api.MapSpec{At: slot(v[0], v[1]), Root: v[2], Va: uint32(v[3]), Rights: v[4]})
	case "start":
		h.Num, h.Domain, h.Prio, h.Ready, h.Context.Pc = v[0], v[1], v[2], v[3] == 1, uint32(v[4])
		s.Threads = append(s.Threads, h)
	case "bind":
		s.Irqs = append(s.Irqs, api.IrqSpec{Line: v[0], Bell: v[1], Badge: uint32(v[2])})
	default:
		o := api.ObjectSpec{Object: obj(kinds[first], v[0])}
		switch {
		case first == "box":
			o.Size = v[1]
		case first == "untyped":
			o.Num += 256 * v[1]
		}
		m.names[name] = o.Object
		if first != "irq" && first != "port" {
			s.Objects = append(s.Objects, o)
		}
	}
}

func (m *model) parts(c *api.CapSpec) {
	count := map[string]int{}
	for len(m.words) > 0 {
		w := m.next()
		switch w {
		case "badge":
			c.Cap.Badge = uint32(m.number())
		case "guard":
			c.Cap.Guard = uint32(m.number())
			c.Cap.GuardBits = m.number()
		case "from":
			n := m.one("5,6")
			c.From = slot(n, m.number())
		default:
			panic(api.ErrForm)
		}
		count[w]++
		must(count[w] == 1, api.ErrTwice)
	}
}

// agree holds Parse against the model: what both answer.
func agree(t *testing.T, text string) (spec.Spec, api.Errno) {
	t.Helper()
	s, e, line := spec.Parse(text)
	want, why, at := new(model).lines(text)
	if why == api.ErrLong {
		at = 0
	}
	if e != why || line != at {
		t.Fatalf("Parse(%q): %d, line %d, wanted %d, line %d", text, e, line, why, at)
	}
	isSpec(t, text, s, want)
	if t.Failed() {
		t.FailNow()
	}
	return s, e
}

// texts makes texts at random: lines that mostly are right, and now and then are changed a little.
type texts struct {
	*rand.Rand
}

func (r texts) pick(all ...string) string { return all[r.Intn(len(all))] }

func (r texts) number() string {
	if r.Intn(60) == 0 {
		return r.pick("4294967295", "0xffffffff", "4294967296", "0x", "-1", "0xFF", "4095", "4096", "256", "9", "32", "x")
	}
	return r.pick("0", "1", "2", "3", "4", "5", "6", "7", "0x3")
}

func (r texts) name() string {
	if r.Intn(80) == 0 {
		return r.pick("é", "9a", "a-", "", strings.Repeat("z", 33), "e", "_")
	}
	return r.pick("u", "f", "t", "r", "b", "h", "e", "l", "i", "p", "n", "m", "o", "q", "_9", "Long_name")
}

// part is a word, or more, as a part of the grammar wants it.
func (r texts) part(part string) string {
	switch part {
	case "NAME":
		return r.name() + strconv.Itoa(r.Intn(1000))
	case "digits":
		return r.pick("00", "ff01", "Ab", "0g", "000", strings.Repeat("12", 60))
	case "state":
		return r.pick("ready", "idle", "ready", "idle", "ready", "idle", "busy")
	case "rights":
		return r.pick("-", "r", "w", "rw", "rx", "rwg", "xwr", "gx", "rr")
	case "calls*":
		return strings.TrimRight(strings.Repeat("1 31 7 ", r.Intn(3))+r.number(), " ")
	case "parts*":
		all := ""
		for range r.Intn(4) {
			badge, guard, from := " badge "+r.number(), " guard "+r.number()+" "+r.number(), " from "+r.pick("b", "h")+" "+r.number()
			all += r.pick(badge, guard, from, badge, guard, from, badge, guard, from, " badge", " from f 1", " more")
		}
		return all
	case "registers*":
		all := ""
		for range r.Intn(4) {
			all += " x" + strconv.Itoa(r.Intn(33)) + " " + r.number()
		}
		return all
	case "any":
		return r.name()
	}
	if part == "number" || part[0] == '<' {
		return r.number()
	}
	if r.Intn(30) == 0 {
		return r.name()
	}
	kind := strings.Split(part, ",")[0]
	n, _ := strconv.Atoi(kind)
	return "uftrbhelip"[n-1 : n]
}

func (r texts) line() string {
	firsts := []string{"pages", "turn", "calls", "frame", "table", "root", "thread", "end", "bell", "box", "untyped", "irq", "port", "code", "bytes", "cap", "map", "start", "bind", "cap", "start"}
	first := firsts[r.Intn(len(firsts))]
	words := []string{first}
	for _, part := range strings.Fields(grammar[first]) {
		words = append(words, r.part(part))
	}
	if r.Intn(25) == 0 {
		i := r.Intn(len(words))
		switch r.Intn(4) {
		case 0:
			words = slices.Delete(words, i, i+1)
		case 1:
			words = slices.Insert(words, i, words[i])
		case 2:
			words[i] = r.pick("#", "stop", "0", "f", "\t", "#x", "code", "\r")
		case 3:
			j := r.Intn(len(words))
			words[i], words[j] = words[j], words[i]
		}
	}
	line := strings.Join(words, r.pick(" ", " ", "\t", "  "))
	if first == "code" {
		line += "\n" + r.pick("", "ecall\n", "a: jal x0, a\n", "li x1, 5\n\n", "nop\n", "b:\necall\nb:\n", "addi x1, x1, 9999\n", "jal x0, c\n") + r.pick("stop", "stop", "stop", " stop\t", "stop", "stop", "stop #")
	}
	return line
}

func (r texts) text() string {
	lines := []string{strings.TrimSuffix(head, "\n")}
	for range r.Intn(12) {
		lines = append(lines, r.line())
	}
	return strings.Join(lines, "\n")
}

// TestModel: whatever a text is, it is read as the chapter's table says.
func TestModel(t *testing.T) {
	r := texts{rand.New(rand.NewSource(11))}
	met := map[api.Errno]int{}
	lists := map[string]int{}
	for range 60000 {
		s, e := agree(t, r.text())
		met[e]++
		for what, n := range map[string]int{"turns": len(s.Turns), "bytes": len(s.Bytes), "caps": len(s.Caps), "maps": len(s.Maps), "threads": len(s.Threads), "irqs": len(s.Irqs), "objects": len(s.Objects)} {
			lists[what] += n
		}
	}
	for _, e := range []api.Errno{api.OK, api.ErrWord, api.ErrForm, api.ErrRange, api.ErrName, api.ErrKind, api.ErrTwice} {
		if met[e] < 500 {
			t.Errorf("the answer %d was met %d times only", e, met[e])
		}
	}
	for what, n := range lists {
		if n < 1000 {
			t.Errorf("of %s there were %d only", what, n)
		}
	}
}

// TestPieces: the same of all that a text is up to some byte of it, and of it without some byte, or with another in its place.
func TestPieces(t *testing.T) {
	text := head + "calls 1 2\nturn 0 9\ncode f 8\nli x1, 5\nstop\nbytes f 0 ff00\ncap b 1 e rwg badge 9 from h 0 guard 0 3\nmap b 1 r 0x1000 rx\nstart h 0 1 ready 16 x1 5\nbind i l 16"
	for i := range text {
		agree(t, text[:i])
		agree(t, text[i:])
		agree(t, text[:i]+text[i+1:])
		for _, c := range " \n#9x-_f\xff" {
			agree(t, text[:i]+string(c)+text[i+1:])
			agree(t, text[:i]+string(c)+text[i:])
		}
	}
}

func FuzzParse(f *testing.F) {
	f.Add("")
	f.Add(adds)
	f.Add(head)
	r := texts{rand.New(rand.NewSource(12))}
	for range 20 {
		f.Add(r.text())
	}
	f.Fuzz(func(t *testing.T, text string) { agree(t, text) })
}
