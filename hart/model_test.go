package hart_test

import (
	"math/big"
	"math/rand"
	"strings"
	"testing"

	"vault/api"
	"vault/hart"
	"vault/isa"
	"vault/mem"
	"vault/mmu"
	"vault/vspace"
)

// outcome is what the chapter asks for: the event, the context behind it, and which bytes stand where.
type outcome struct {
	event   api.Event
	context api.Context
	at      int
	bytes   string
}

// asked is the chapter told once more: instructions by their names, numbers as great ones, nothing of the package's own.
func asked(m *mem.Memory, root int, c api.Context) outcome {
	traps := func(cause int, tval uint32) outcome {
		return outcome{event: api.Event{Trap: true, Cause: cause, Tval: tval}, context: c}
	}
	if c.Pc%4 != 0 {
		return traps(api.FetchAlign, c.Pc)
	}
	at, cause := mmu.Walk(m, root, c.Pc, api.Fetch)
	if cause != api.None {
		return traps(cause, c.Pc)
	}
	w, _ := m.Word(at)
	i := isa.Decode(w)
	a, b := c.Regs[i.Rs1], c.Regs[i.Rs2]
	imm := whole(int64(i.Imm))
	next := low(new(big.Int).Add(unsigned(c.Pc), whole(4)))
	set := func(value, pc uint32) outcome {
		if pc%4 != 0 {
			return traps(api.FetchAlign, pc)
		}
		after := c
		after.Regs[i.Rd] = value
		after.Regs[0] = 0
		after.Pc = pc
		return outcome{context: after}
	}
	far := low(new(big.Int).Add(unsigned(c.Pc), imm))
	address := low(new(big.Int).Add(unsigned(a), imm))
	switch name := api.Name(i.Op); name {
	case "":
		return traps(api.Illegal, w)
	case "ecall":
		return traps(api.Ecall, 0)
	case "ebreak":
		return traps(api.Break, c.Pc)
	case "lui":
		return set(low(new(big.Int).Mul(imm, whole(4096))), next)
	case "auipc":
		return set(low(new(big.Int).Add(unsigned(c.Pc), new(big.Int).Mul(imm, whole(4096)))), next)
	case "jal":
		return set(next, far)
	case "jalr":
		return set(next, address/2*2)
	case "beq", "bne", "blt", "bge", "bltu", "bgeu":
		if branches(name, a, b) {
			return set(0, far)
		}
		return set(0, next)
	case "lb", "lh", "lw", "lbu", "lhu":
		n := map[byte]int{'b': 1, 'h': 2, 'w': 4}[name[1]]
		if address%uint32(n) != 0 {
			return traps(api.LoadAlign, address)
		}
		at, cause := mmu.Walk(m, root, address, api.Load)
		if cause != api.None {
			return traps(cause, address)
		}
		s, _ := m.Read(at, n)
		return set(read(s, !strings.HasSuffix(name, "u")), next)
	case "sb", "sh", "sw":
		n := map[byte]int{'b': 1, 'h': 2, 'w': 4}[name[1]]
		if address%uint32(n) != 0 {
			return traps(api.StoreAlign, address)
		}
		at, cause := mmu.Walk(m, root, address, api.Store)
		if cause != api.None {
			return traps(cause, address)
		}
		done := set(0, next)
		done.at, done.bytes = at, string([]byte{byte(b), byte(b >> 8), byte(b >> 16), byte(b >> 24)}[:n])
		return done
	case "fence":
		return set(c.Regs[i.Rd], next)
	case "addi", "slti", "xori", "ori", "andi", "slli", "srli", "srai":
		return set(reckoned(strings.TrimSuffix(name, "i"), a, low(imm)), next)
	case "sltiu":
		return set(reckoned("sltu", a, low(imm)), next)
	default:
		return set(reckoned(name, a, b), next)
	}
}

func whole(n int64) *big.Int { return big.NewInt(n) }

func unsigned(n uint32) *big.Int { return new(big.Int).SetUint64(uint64(n)) }

// signed takes 2 to the power 32 off what has the highest bit.
func signed(n uint32) *big.Int {
	z := unsigned(n)
	if z.Bit(31) == 1 {
		z.Sub(z, power(32))
	}
	return z
}

func power(n uint32) *big.Int { return new(big.Int).Lsh(whole(1), uint(n)) }

func low(z *big.Int) uint32 { return uint32(new(big.Int).Mod(z, power(32)).Uint64()) }

func high(z *big.Int) uint32 { return low(new(big.Int).Div(new(big.Int).Mod(z, power(64)), power(32))) }

func read(s string, sign bool) uint32 {
	z := whole(0)
	for i := len(s) - 1; i >= 0; i-- {
		z.Add(z.Mul(z, whole(256)), whole(int64(s[i])))
	}
	if sign && s[len(s)-1] >= 128 {
		z.Sub(z, power(uint32(8*len(s))))
	}
	return low(z)
}

func branches(name string, a, b uint32) bool {
	switch name {
	case "beq", "bne":
		return (unsigned(a).Cmp(unsigned(b)) == 0) == (name == "beq")
	case "blt", "bge":
		return (signed(a).Cmp(signed(b)) < 0) == (name == "blt")
	}
	return (unsigned(a).Cmp(unsigned(b)) < 0) == (name == "bltu")
}

// reckoned is what the table says of two numbers.
func reckoned(name string, a, b uint32) uint32 {
	z := new(big.Int)
	switch name {
	case "add":
		return low(z.Add(unsigned(a), unsigned(b)))
	case "sub":
		return low(z.Sub(unsigned(a), unsigned(b)))
	case "sll":
		return low(z.Mul(unsigned(a), power(b%32)))
	case "srl":
		return low(z.Div(unsigned(a), power(b%32)))
	case "sra":
		return low(z.Div(signed(a), power(b%32))) // Div is towards the least number
	case "slt":
		return map[bool]uint32{true: 1}[signed(a).Cmp(signed(b)) < 0]
	case "sltu":
		return map[bool]uint32{true: 1}[unsigned(a).Cmp(unsigned(b)) < 0]
	case "xor", "or", "and":
		for n := range 32 {
			ones := a>>n%2 + b>>n%2
			if name == "xor" && ones == 1 || name == "or" && ones > 0 || name == "and" && ones == 2 {
				z.SetBit(z, n, 1)
			}
		}
		return low(z)
	case "mul":
		return low(z.Mul(unsigned(a), unsigned(b)))
	case "mulh":
		return high(z.Mul(signed(a), signed(b)))
	case "mulhsu":
		return high(z.Mul(signed(a), unsigned(b)))
	case "mulhu":
		return high(z.Mul(unsigned(a), unsigned(b)))
	}
	return divided(name, a, b)
}

func divided(name string, a, b uint32) uint32 {
	const least, minusOne = 0x80000000, 0xffffffff
	z := new(big.Int)
	switch name {
	case "div":
		if b == 0 {
			return 4294967295
		}
		if a == least && b == minusOne {
			return a
		}
		return low(z.Quo(signed(a), signed(b)))
	case "rem":
		if b == 0 {
			return a
		}
		if a == least && b == minusOne {
			return 0
		}
		return low(z.Rem(signed(a), signed(b)))
	case "divu":
		if b == 0 {
			return 4294967295
		}
		return low(z.Quo(unsigned(a), unsigned(b)))
	case "remu":
		if b == 0 {
			return a
		}
		return low(z.Rem(unsigned(a), unsigned(b)))
	}
	panic("the chapter has no " + name)
}

// holds does one step, and holds all that there is behind it against what is asked.
func holds(t *testing.T, m *mem.Memory, root int, c *api.Context) api.Event {
	t.Helper()
	was, before := *c, all(m)
	want := asked(m, root, was)
	wanted := before
	if want.bytes != "" {
		wanted = before[:want.at] + want.bytes + before[want.at+len(want.bytes):]
	}
	event := hart.Step(m, root, c)
	if event != want.event {
		t.Fatalf("at %#x: %+v, wanted %+v (%s)", was.Pc, event, want.event, textAt(m, root, was.Pc))
	}
	if *c != want.context {
		t.Fatalf("at %#x: %#x becomes %#x, wanted %#x (%s)", was.Pc, was, *c, want.context, textAt(m, root, was.Pc))
	}
	if all(m) != wanted {
		t.Fatalf("at %#x: other bytes than wanted (%s)", was.Pc, textAt(m, root, was.Pc))
	}
	return event
}

func all(m *mem.Memory) string {
	s, _ := m.Read(0, m.Pages()*api.PageLen)
	return s
}

func textAt(m *mem.Memory, root int, pc uint32) string {
	at, _ := mmu.Walk(m, root, pc, api.Fetch)
	w, _ := m.Word(at)
	return isa.Text(w)
}

// wild is a memory whose tables (pages 1, 2, 3) have frames of all rights, at the lowest and the highest addresses, and one that is beyond memory.
func wild(t *testing.T, r *rand.Rand) *mem.Memory {
	m := memory(t, 9)
	is(t, vspace.Table(m, 1, 0, 2))
	is(t, vspace.Table(m, 1, 0xffffffff, 3))
	for p := range 4 {
		s := make([]byte, api.PageLen)
		r.Read(s)
		is(t, m.Write((4+p)*api.PageLen, string(s)))
		for i, rights := range []int{1, 3, 4, 5, 7} {
			is(t, vspace.Map(m, 1, uint32(i*4+p+1)<<12, 4+p, rights))
		}
	}
	is(t, vspace.Map(m, 1, 0x30000, 1, 3))               // the root, which may be stored to
	is(t, m.SetWord(2*api.PageLen+0x31*4, 100<<10|0xdf)) // beyond memory
	is(t, m.SetWord(1*api.PageLen+0x100*4, 0xdf))        // 4194304 bytes from place 0 on
	is(t, m.SetWord(1*api.PageLen+0x101*4, 77<<10|1))    // a table beyond memory
	is(t, vspace.Map(m, 1, 0xfffff000, 8, 7))
	is(t, vspace.Map(m, 1, 0xffffe000, 7, 5))
	return m
}

// someNumber is one at an edge, an address, or any.
func someNumber(r *rand.Rand) uint32 {
	edges := []uint32{0, 1, 2, 3, 4, 31, 32, 33, 0x7ff, 0x800, 0xffff, 0x10000, 0x7fffffff, 0x80000000, 0x80000001, 0xfffff800, 0xfffffffc, 0xfffffffe, 0xffffffff}
	high := []uint32{0x30000, 0x31000, 0x40000000, 0x40400000, 0xffffe000, 0xfffff000}
	within := r.Uint32() % 0x1000 >> r.Intn(3) << r.Intn(3)
	switch r.Intn(8) {
	case 0:
		return edges[r.Intn(len(edges))]
	case 1:
		return r.Uint32()
	case 2:
		return high[r.Intn(len(high))] + within
	}
	return uint32(1+r.Intn(21))<<12 + within
}

// someWord is a word of op with registers (often the same) and immediates (often small) at random.
func someWord(r *rand.Rand, op int) uint32 {
	shape := api.Shape(op)
	for {
		i := api.Ins{Op: op}
		some := 1 + r.Intn(32)
		if strings.Contains(shape, "d") {
			i.Rd = r.Intn(some)
		}
		if strings.ContainsAny(shape, "sm") {
			i.Rs1 = r.Intn(some)
		}
		if strings.Contains(shape, "t") {
			i.Rs2 = r.Intn(some)
		}
		if strings.ContainsAny(shape, "ijm") {
			i.Imm = (r.Intn(1<<20) - 1<<19) >> r.Intn(20)
		}
		if w, e := isa.Encode(i); e == api.OK {
			return w
		}
	}
}

// somePc is mostly one from which may be fetched.
func somePc(r *rand.Rand) uint32 {
	code := []uint32{0x9000, 0xc000, 0x10000, 0x13000, 0x14000, 0x15000, 0xffffe000, 0xfffff000, 0x40004000}
	switch r.Intn(8) {
	case 0:
		return someNumber(r)
	case 1:
		return 0xfffffffc
	}
	return code[r.Intn(len(code))] + r.Uint32()%0x1000/4*4
}

// TestModelOps: each Op by itself, between numbers and at places of all kinds.
func TestModelOps(t *testing.T) {
	for op := 1; op <= api.Ops; op++ {
		r := rand.New(rand.NewSource(int64(op)))
		m := wild(t, r)
		for n := range 250 {
			if n%25 == 0 { // a store may have changed the tables
				m = wild(t, r)
			}
			c := api.Context{Pc: somePc(r)}
			for i := range c.Regs[1:] {
				c.Regs[i+1] = someNumber(r)
			}
			if at, cause := mmu.Walk(m, 1, c.Pc, api.Fetch); cause == api.None {
				m.SetWord(at/4*4, someWord(r, op))
			}
			holds(t, m, 1, &c)
		}
	}
}

// TestModelRuns: steps one behind another, over words of all kinds; what traps, or has gone on for long, goes on elsewhere.
func TestModelRuns(t *testing.T) {
	for seed := range int64(40) {
		r := rand.New(rand.NewSource(seed))
		m := wild(t, r)
		for at := 4 * api.PageLen; at < 9*api.PageLen; at += 4 {
			if r.Intn(20) > 0 {
				m.SetWord(at, someWord(r, 1+r.Intn(api.Ops)))
			}
		}
		c := api.Context{Pc: 0x15000}
		for range 200 {
			if event := holds(t, m, 1, &c); event.Trap || r.Intn(20) == 0 {
				c.Pc = somePc(r)
				c.Regs[1+r.Intn(31)] = someNumber(r)
			}
		}
	}
}
