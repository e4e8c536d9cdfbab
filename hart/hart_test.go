package hart_test

import (
	"math"
	"testing"

	"vault/api"
	"vault/asm"
	"vault/hart"
	"vault/mem"
	"vault/mmu"
	"vault/vspace"
)

func memory(t *testing.T, pages int) *mem.Memory {
	t.Helper()
	m, e := mem.New(pages)
	if m == nil || e != api.OK {
		t.Fatalf("New(%d): %d", pages, e)
	}
	return m
}

func is(t *testing.T, e api.Errno) {
	t.Helper()
	if e != api.OK {
		t.Fatalf("refused: %d", e)
	}
}

// machine has code at 0x1000 (page 3, rights 5) and data at 0x2000 (page 4, rights 3), by the root 1.
func machine(t *testing.T, text string) *mem.Memory {
	t.Helper()
	m := memory(t, 6)
	is(t, vspace.Table(m, 1, 0, 2))
	is(t, vspace.Map(m, 1, 0x1000, 3, 5))
	is(t, vspace.Map(m, 1, 0x2000, 4, 3))
	lay(t, m, 3*api.PageLen, text)
	return m
}

func lay(t *testing.T, m *mem.Memory, at int, text string) {
	t.Helper()
	code, e, line := asm.Assemble(text)
	if e != api.OK {
		t.Fatalf("%q: %d in line %d", text, e, line)
	}
	is(t, m.Write(at, code))
}

// regs are registers by their numbers.
type regs map[int]uint32

func context(pc uint32, r regs) api.Context {
	c := api.Context{Pc: pc}
	for n, value := range r {
		c.Regs[n] = value
	}
	return c
}

// does: a step without a trap, behind which the context is that, and all else as it was.
func does(t *testing.T, text string, before regs, pc uint32, after regs) {
	t.Helper()
	m := machine(t, text)
	c, want := context(0x1000, before), context(pc, before)
	for n, value := range after {
		want.Regs[n] = value
	}
	bytes := all(m)
	if event := hart.Step(m, 1, &c); event != (api.Event{}) {
		t.Errorf("%s traps: %+v", text, event)
	}
	if c != want {
		t.Errorf("%s: %#x, wanted %#x", text, c, want)
	}
	if all(m) != bytes {
		t.Errorf("%s changed the memory", text)
	}
}

// trapsAt: a step that changes nothing.
func trapsAt(t *testing.T, m *mem.Memory, root int, c api.Context, cause int, tval uint32) {
	t.Helper()
	was, bytes := c, all(m)
	want := api.Event{Trap: true, Cause: cause, Tval: tval}
	if event := hart.Step(m, root, &c); event != want {
		t.Errorf("at %#x: %+v, wanted %+v", was.Pc, event, want)
	}
	if c != was || all(m) != bytes {
		t.Errorf("the trap at %#x changed something", was.Pc)
	}
}

func traps(t *testing.T, text string, before regs, cause int, tval uint32) {
	t.Helper()
	trapsAt(t, machine(t, text), 1, context(0x1000, before), cause, tval)
}

// TestExamples are those of the chapter.
func TestExamples(t *testing.T) {
	does(t, "addi x1, x0, 5", nil, 0x1004, regs{1: 5})
	traps(t, "lw x2, 0(x0)", regs{2: 7}, api.LoadPage, 0)
	traps(t, "jalr x0, 2(x0)", nil, api.FetchAlign, 2)
	does(t, "mulhsu x3, x1, x2", regs{1: 0xffffffff, 2: 4294967295}, 0x1004, regs{3: 4294967295})
}

// TestSums: each Op of two registers, and its like with an immediate.
func TestSums(t *testing.T) {
	const least, all = 0x80000000, 0xffffffff
	for _, x := range []struct {
		op         string
		a, b, want uint32
	}{
		{"add", 3, 4, 7}, {"add", all, 1, 0}, {"sub", 3, 4, all}, {"sub", 4, 4, 0},
		{"sll", 1, 31, least}, {"sll", 3, 31, least}, {"sll", 5, 32, 5}, {"sll", 5, 0xffffffe1, 10},
		{"srl", least, 31, 1}, {"srl", least, 4, 0x08000000}, {"srl", 9, 32, 9}, {"srl", all, all, 1},
		{"sra", least, 31, all}, {"sra", least, 4, 0xf8000000}, {"sra", least, 32, least}, {"sra", 0x40000000, 30, 1},
		{"slt", all, 0, 1}, {"slt", 0, all, 0}, {"slt", least, 0x7fffffff, 1}, {"slt", 0x7fffffff, least, 0}, {"slt", 5, 5, 0},
		{"sltu", all, 0, 0}, {"sltu", 0, all, 1}, {"sltu", least, 0x7fffffff, 0}, {"sltu", 5, 5, 0},
		{"xor", 12, 10, 6}, {"or", 12, 10, 14}, {"and", 12, 10, 8},
		{"mul", 0xfffffffd, 5, 0xfffffff1}, {"mul", 0x10000, 0x10001, 0x10000}, {"mul", all, all, 1},
		{"mulh", all, all, 0}, {"mulh", least, least, 0x40000000}, {"mulh", all, 1, all}, {"mulh", least, 0x7fffffff, 0xc0000000},
		{"mulhsu", all, all, all}, {"mulhsu", 1, all, 0}, {"mulhsu", least, all, least}, {"mulhsu", 0x7fffffff, all, 0x7ffffffe},
		{"mulhu", all, all, 0xfffffffe}, {"mulhu", least, 2, 1}, {"mulhu", 0xffff, 0xffff, 0},
		{"div", 7, 2, 3}, {"div", 0xfffffff9, 2, 0xfffffffd}, {"div", 7, 0xfffffffe, 0xfffffffd}, {"div", 0xfffffff9, 0xfffffffe, 3},
		{"div", 7, 0, all}, {"div", 0xfffffff9, 0, all}, {"div", 0, 0, all}, {"div", least, all, least}, {"div", least, 1, least},
		{"rem", 7, 2, 1}, {"rem", 0xfffffff9, 2, all}, {"rem", 7, 0xfffffffe, 1}, {"rem", 0xfffffff9, 0xfffffffe, all},
		{"rem", 7, 0, 7}, {"rem", 0xfffffff9, 0, 0xfffffff9}, {"rem", least, all, 0}, {"rem", least, 0, least},
		{"divu", 7, 2, 3}, {"divu", all, 2, 0x7fffffff}, {"divu", least, all, 0}, {"divu", 7, 0, all}, {"divu", 0, 0, all},
		{"remu", 7, 2, 1}, {"remu", all, 2, 1}, {"remu", least, all, least}, {"remu", 7, 0, 7}, {"remu", all, 0, all},
	} {
		does(t, x.op+" x3, x1, x2", regs{1: x.a, 2: x.b, 3: 99}, 0x1004, regs{3: x.want})
		does(t, x.op+" x1, x1, x2", regs{1: x.a, 2: x.b}, 0x1004, regs{1: x.want})
		does(t, x.op+" x2, x1, x2", regs{1: x.a, 2: x.b}, 0x1004, regs{2: x.want})
	}
}

func TestImmediates(t *testing.T) {
	for _, x := range []struct {
		text    string
		a, want uint32
	}{
		{"addi x31, x30, -1", 0, 0xffffffff}, {"addi x31, x30, -2048", 5, 0xfffff805}, {"addi x31, x30, 2047", 0xffffffff, 2046},
		{"slti x31, x30, -1", 0xfffffffe, 1}, {"slti x31, x30, -1", 0xffffffff, 0}, {"slti x31, x30, 5", 0x80000000, 1}, {"slti x31, x30, -5", 0, 0},
		{"sltiu x31, x30, -1", 5, 1}, {"sltiu x31, x30, -1", 0xffffffff, 0}, {"sltiu x31, x30, 5", 4, 1}, {"sltiu x31, x30, 5", 0x80000000, 0},
		{"xori x31, x30, -1", 5, 0xfffffffa}, {"ori x31, x30, -2048", 5, 0xfffff805}, {"andi x31, x30, -2048", 0xffffffff, 0xfffff800},
		{"xori x31, x30, 12", 10, 6}, {"ori x31, x30, 12", 10, 14}, {"andi x31, x30, 12", 10, 8},
		{"slli x31, x30, 31", 3, 0x80000000}, {"slli x31, x30, 0", 3, 3}, {"srli x31, x30, 31", 0x80000000, 1}, {"srli x31, x30, 0", 9, 9},
		{"srai x31, x30, 31", 0x80000000, 0xffffffff}, {"srai x31, x30, 4", 0x80000000, 0xf8000000}, {"srai x31, x30, 4", 0x70000000, 0x07000000},
		{"lui x31, 0", 5, 0}, {"lui x31, -1", 5, 0xfffff000}, {"lui x31, 524287", 5, 0x7ffff000}, {"lui x31, -524288", 5, 0x80000000},
		{"auipc x31, 0", 5, 0x1000}, {"auipc x31, -1", 5, 0}, {"auipc x31, -2", 5, 0xfffff000}, {"auipc x31, 524287", 5, 0x80000000},
	} {
		does(t, x.text, regs{30: x.a, 31: 99}, 0x1004, regs{31: x.want})
	}
}

func TestJumps(t *testing.T) {
	does(t, "jal x1, 8", nil, 0x1008, regs{1: 0x1004})
	does(t, "jal x1, -4096", nil, 0, regs{1: 0x1004})
	does(t, "jal x1, -4100", nil, 0xfffffffc, regs{1: 0x1004})
	does(t, "jal x0, 0", nil, 0x1000, nil)
	does(t, "jal x1, 0x40000", nil, 0x41000, regs{1: 0x1004}) // nothing is mapped there, which the next step will tell
	traps(t, "jal x1, 2", nil, api.FetchAlign, 0x1002)
	traps(t, "jal x1, -2", nil, api.FetchAlign, 0xffe)
	traps(t, "jal x0, 2", nil, api.FetchAlign, 0x1002)

	does(t, "jalr x1, 4(x2)", regs{2: 0x2000}, 0x2004, regs{1: 0x1004})
	does(t, "jalr x2, 4(x2)", regs{2: 0x2000}, 0x2004, regs{2: 0x1004})
	does(t, "jalr x1, 1(x2)", regs{2: 0x2000}, 0x2000, regs{1: 0x1004})
	does(t, "jalr x1, 0(x2)", regs{2: 0x2001}, 0x2000, regs{1: 0x1004})
	does(t, "jalr x1, -4(x0)", nil, 0xfffffffc, regs{1: 0x1004})
	does(t, "jalr x1, 4(x2)", regs{2: 0xfffffffc}, 0, regs{1: 0x1004})
	traps(t, "jalr x1, -1(x0)", nil, api.FetchAlign, 0xfffffffe)
	traps(t, "jalr x1, 3(x2)", regs{2: 0x2000}, api.FetchAlign, 0x2002)
	traps(t, "jalr x1, 0(x2)", regs{2: 0x2002}, api.FetchAlign, 0x2002)
}

// TestBranches: one that does not go does not trap, wherever it would have gone.
func TestBranches(t *testing.T) {
	const least, all = 0x80000000, 0xffffffff
	for _, x := range []struct {
		op   string
		a, b uint32
		goes bool
	}{
		{"beq", 5, 5, true}, {"beq", 5, 6, false}, {"beq", 0, least, false},
		{"bne", 5, 5, false}, {"bne", 5, 6, true}, {"bne", 0, least, true},
		{"blt", 5, 6, true}, {"blt", 5, 5, false}, {"blt", 6, 5, false}, {"blt", all, 0, true}, {"blt", 0, all, false}, {"blt", least, 0x7fffffff, true},
		{"bge", 5, 6, false}, {"bge", 5, 5, true}, {"bge", 6, 5, true}, {"bge", all, 0, false}, {"bge", 0, all, true}, {"bge", least, 0x7fffffff, false},
		{"bltu", 5, 6, true}, {"bltu", 5, 5, false}, {"bltu", 6, 5, false}, {"bltu", all, 0, false}, {"bltu", 0, all, true}, {"bltu", least, 0x7fffffff, false},
		{"bgeu", 5, 6, false}, {"bgeu", 5, 5, true}, {"bgeu", 6, 5, true}, {"bgeu", all, 0, true}, {"bgeu", 0, all, false}, {"bgeu", least, 0x7fffffff, true},
	} {
		before := regs{1: x.a, 2: x.b}
		if !x.goes {
			does(t, x.op+" x1, x2, 16", before, 0x1004, nil)
			does(t, x.op+" x1, x2, 6", before, 0x1004, nil)
			continue
		}
		does(t, x.op+" x1, x2, 16", before, 0x1010, nil)
		does(t, x.op+" x1, x2, -4", before, 0xffc, nil)
		does(t, x.op+" x1, x2, 0", before, 0x1000, nil)
		does(t, x.op+" x1, x2, 4092", before, 0x1ffc, nil)
		does(t, x.op+" x1, x2, -4096", before, 0, nil)
		traps(t, x.op+" x1, x2, 6", before, api.FetchAlign, 0x1006)
		traps(t, x.op+" x1, x2, -2", before, api.FetchAlign, 0xffe)
	}
}

// TestLoads: bytes that are a letter as a text (c3 a9) are two here.
func TestLoads(t *testing.T) {
	const data = "\x7f\xff\x81\x80\xc3\xa9\x01\x82"
	for _, x := range []struct {
		text string
		want uint32
	}{
		{"lw x3, 0(x1)", 0x8081ff7f}, {"lw x3, 4(x1)", 0x8201a9c3},
		{"lh x3, 0(x1)", 0xffffff7f}, {"lh x3, 2(x1)", 0xffff8081}, {"lh x3, 4(x1)", 0xffffa9c3},
		{"lhu x3, 0(x1)", 0xff7f}, {"lhu x3, 2(x1)", 0x8081}, {"lhu x3, 4(x1)", 0xa9c3},
		{"lb x3, 0(x1)", 0x7f}, {"lb x3, 1(x1)", 0xffffffff}, {"lb x3, 2(x1)", 0xffffff81}, {"lb x3, 3(x1)", 0xffffff80},
		{"lbu x3, 0(x1)", 0x7f}, {"lbu x3, 1(x1)", 0xff}, {"lbu x3, 2(x1)", 0x81}, {"lbu x3, 3(x1)", 0x80},
	} {
		for _, at := range []uint32{0x2000, 0x27f8, 0x2ff8} {
			m := machine(t, x.text)
			is(t, m.Write(4*api.PageLen+int(at%api.PageLen), data))
			bytes := all(m)
			c := context(0x1000, regs{1: at, 3: 99})
			if event := hart.Step(m, 1, &c); event != (api.Event{}) || c != context(0x1004, regs{1: at, 3: x.want}) {
				t.Errorf("%s at %#x: %+v, %#x, wanted %#x", x.text, at, event, c, x.want)
			}
			if all(m) != bytes {
				t.Errorf("%s changed the memory", x.text)
			}
		}
	}
	does(t, "lw x1, 0(x1)", regs{1: 0x2000}, 0x1004, regs{1: 0})
	does(t, "lw x0, 0(x1)", regs{1: 0x1000}, 0x1004, nil)
	does(t, "lw x3, -4(x1)", regs{1: 0x1004}, 0x1004, regs{3: 0xffc0a183})
}

func TestStores(t *testing.T) {
	for _, x := range []struct {
		text string
		at   int
		want string
	}{
		{"sw x2, 0(x1)", 0, "\xc3\xa9\x81\xf4"}, {"sw x2, 4(x1)", 4, "\xc3\xa9\x81\xf4"}, {"sw x2, -4(x1)", -4, "\xc3\xa9\x81\xf4"},
		{"sh x2, 0(x1)", 0, "\xc3\xa9"}, {"sh x2, 2(x1)", 2, "\xc3\xa9"}, {"sh x2, -2(x1)", -2, "\xc3\xa9"},
		{"sb x2, 0(x1)", 0, "\xc3"}, {"sb x2, 1(x1)", 1, "\xc3"}, {"sb x2, 3(x1)", 3, "\xc3"}, {"sb x2, -1(x1)", -1, "\xc3"},
	} {
		for _, at := range []uint32{0x2004, 0x2800, 0x2ff8} {
			m := machine(t, x.text)
			place := 4*api.PageLen + int(at%api.PageLen)
			is(t, m.Write(place-4, "abcdefghijkl"))
			before := all(m)
			c := context(0x1000, regs{1: at, 2: 0xf481a9c3})
			if event := hart.Step(m, 1, &c); event != (api.Event{}) || c != context(0x1004, regs{1: at, 2: 0xf481a9c3}) {
				t.Errorf("%s at %#x: %+v, %#x", x.text, at, event, c)
			}
			if want := before[:place+x.at] + x.want + before[place+x.at+len(x.want):]; all(m) != want {
				t.Errorf("%s at %#x: other bytes than wanted", x.text, at)
			}
		}
	}
}

// TestAlignment: it is looked for ahead of what is mapped.
func TestAlignment(t *testing.T) {
	for _, at := range []uint32{0x1000, 0x2000, 0x9000, 0x80000000} {
		before := regs{1: at, 2: 5}
		for _, off := range []string{"1", "2", "3"} {
			tval := at + uint32(off[0]-'0')
			traps(t, "lw x2, "+off+"(x1)", before, api.LoadAlign, tval)
			traps(t, "sw x2, "+off+"(x1)", before, api.StoreAlign, tval)
			if off != "2" {
				traps(t, "lh x2, "+off+"(x1)", before, api.LoadAlign, tval)
				traps(t, "lhu x2, "+off+"(x1)", before, api.LoadAlign, tval)
				traps(t, "sh x2, "+off+"(x1)", before, api.StoreAlign, tval)
			}
		}
	}
	traps(t, "lw x0, -1(x0)", nil, api.LoadAlign, 0xffffffff)
	traps(t, "sw x0, -2(x0)", nil, api.StoreAlign, 0xfffffffe)
}

// TestPages: loads and stores where they may not be; that of a load whose Rd is register 0, too.
func TestPages(t *testing.T) {
	for _, op := range []string{"lb", "lh", "lw", "lbu", "lhu"} {
		traps(t, op+" x2, 4(x1)", regs{1: 0x3000, 2: 5}, api.LoadPage, 0x3004)
		traps(t, op+" x0, 4(x1)", regs{1: 0x3000}, api.LoadPage, 0x3004)
		traps(t, op+" x2, -8(x0)", regs{2: 5}, api.LoadPage, 0xfffffff8)
	}
	for _, op := range []string{"sb", "sh", "sw"} {
		traps(t, op+" x2, 4(x1)", regs{1: 0x3000, 2: 5}, api.StorePage, 0x3004)
		traps(t, op+" x2, 4(x1)", regs{1: 0x1000, 2: 5}, api.StorePage, 0x1004) // it may be read
		traps(t, op+" x2, -8(x0)", regs{2: 5}, api.StorePage, 0xfffffff8)
	}
	m := machine(t, "lw x2, 0(x1)\nsw x2, 0(x1)")
	is(t, m.SetWord(2*api.PageLen+3*4, 6<<10|0xdf)) // page 6 is not there
	trapsAt(t, m, 1, context(0x1000, regs{1: 0x3ffc, 2: 5}), api.LoadAccess, 0x3ffc)
	trapsAt(t, m, 1, context(0x1004, regs{1: 0x3ffc, 2: 5}), api.StoreAccess, 0x3ffc)
	trapsAt(t, m, 1, context(0x3ffc, nil), api.FetchAccess, 0x3ffc)
	is(t, vspace.Map(m, 1, 0x4000, 5, 4)) // it may be fetched from alone
	lay(t, m, 5*api.PageLen, "lw x2, 0(x1)\nsw x2, 0(x1)")
	trapsAt(t, m, 1, context(0x4000, regs{1: 0x4000}), api.LoadPage, 0x4000)
	trapsAt(t, m, 1, context(0x4004, regs{1: 0x4000}), api.StorePage, 0x4000)
}

// TestFetch: what is wrong with Pc, in its order, and with the word there.
func TestFetch(t *testing.T) {
	m := machine(t, "ecall\nebreak\n.word 0\n.word 0xffffffff\n.word 0x00200073\naddi x1, x1, 1")
	for _, low := range []uint32{1, 2, 3} {
		for _, page := range []uint32{0x1000, 0x2000, 0x9000, 0xfffffffc} {
			trapsAt(t, m, 1, context(page+low, nil), api.FetchAlign, page+low)
			trapsAt(t, m, -1, context(page+low, nil), api.FetchAlign, page+low)
		}
	}
	r := regs{1: 7, 17: 3}
	trapsAt(t, m, 1, context(0x2000, r), api.FetchPage, 0x2000)
	trapsAt(t, m, 1, context(0x9000, r), api.FetchPage, 0x9000)
	trapsAt(t, m, 1, context(0xfffffffc, r), api.FetchPage, 0xfffffffc)
	trapsAt(t, m, 1, context(0x1000, r), api.Ecall, 0)
	trapsAt(t, m, 1, context(0x1004, r), api.Break, 0x1004)
	trapsAt(t, m, 1, context(0x1008, r), api.Illegal, 0)
	trapsAt(t, m, 1, context(0x100c, r), api.Illegal, 0xffffffff)
	trapsAt(t, m, 1, context(0x1010, r), api.Illegal, 0x00200073)
	for _, root := range []int{-1, 6, 7, 256, 1 << 32, 1<<32 + 1, 1 << 52, 1<<52 + 1, math.MaxInt, math.MinInt} {
		trapsAt(t, m, root, context(0x1014, r), api.FetchAccess, 0x1014)
	}
	trapsAt(t, m, 2, context(0x1014, r), api.FetchPage, 0x1014)
	bytes := all(m)
	if event := hart.Step(m, 1, nil); event != (api.Event{Trap: true, Cause: api.Illegal}) || all(m) != bytes {
		t.Errorf("without a context: %+v", event)
	}
}

// TestZero: register 0 is 0 ahead of a step and behind it, whatever a context is given with.
func TestZero(t *testing.T) {
	for _, text := range []string{"lui x0, 5", "auipc x0, 5", "addi x0, x1, 5", "slli x0, x1, 5", "add x0, x1, x1", "mul x0, x1, x1", "divu x0, x1, x0", "lbu x0, 0(x1)", "fence x0, x0, 5"} {
		does(t, text, regs{1: 0x2000}, 0x1004, nil)
	}
	does(t, "jal x0, 8", nil, 0x1008, nil)
	does(t, "jalr x0, 8(x1)", regs{1: 0x2000}, 0x2008, nil)
	does(t, "add x3, x0, x0", regs{0: 9, 3: 5}, 0x1004, regs{3: 0})
	does(t, "addi x3, x0, 1", regs{0: 9}, 0x1004, regs{3: 1})
	does(t, "beq x0, x1, 8", regs{0: 9}, 0x1008, nil)
	traps(t, "lw x3, 0(x0)", regs{0: 0x2000}, api.LoadPage, 0)
}

func TestFence(t *testing.T) {
	does(t, "fence x3, x1, 5", regs{1: 2, 3: 9}, 0x1004, nil)
	does(t, "fence x1, x1, -1", regs{1: 2}, 0x1004, nil)
}

// TestWraps: the address behind the last one is 0.
func TestWraps(t *testing.T) {
	m := machine(t, "")
	is(t, vspace.Table(m, 1, 0xffc00000, 0))
	is(t, vspace.Map(m, 1, 0xfffff000, 5, 7))
	for _, x := range []struct {
		text   string
		x3, pc uint32
	}{
		{"addi x3, x0, 5", 5, 0}, {"jal x3, 8", 0, 4}, {"jalr x3, 0(x1)", 0, 0x2000}, {"auipc x3, 1", 0xffc, 0}, {"beq x0, x0, 4092", 9, 0xff8}, {"lw x3, -8(x0)", 77, 0},
	} {
		lay(t, m, 6*api.PageLen-4, x.text)
		is(t, m.SetWord(6*api.PageLen-8, 77))
		c := context(0xfffffffc, regs{1: 0x2000, 3: 9})
		if event := hart.Step(m, 1, &c); event != (api.Event{}) || c != context(x.pc, regs{1: 0x2000, 3: x.x3}) {
			t.Errorf("%s: %+v, %#x", x.text, event, c)
		}
	}
}

// TestOwnTables: a hart that may store to its tables sees at its next step what it did; likewise of its own code.
func TestOwnTables(t *testing.T) {
	m := machine(t, "sw x2, 0(x1)\nlw x3, 0(x4)\nsw x5, 12(x6)\necall")
	is(t, vspace.Map(m, 1, 0x3000, 2, 3))
	is(t, vspace.Map(m, 1, 0x4000, 3, 3))
	is(t, m.SetWord(5*api.PageLen+8, 1234))
	c := context(0x1000, regs{1: 0x3000 + 7*4, 2: 5<<10 | 0x53, 4: 0x7008, 5: 0x00100393, 6: 0x4000})
	trapsAt(t, m, 1, context(0x1004, regs{4: 0x7008}), api.LoadPage, 0x7008)
	for range 4 {
		if event := hart.Step(m, 1, &c); event.Trap {
			t.Fatalf("it traps: %+v", event)
		}
	}
	if c.Regs[3] != 1234 || c.Regs[7] != 1 || c.Pc != 0x1010 {
		t.Errorf("x3 is %d, x7 %d, Pc %#x", c.Regs[3], c.Regs[7], c.Pc)
	}
}

// TestAlone: what one step does hangs on its memory and its context, not on what others did.
func TestAlone(t *testing.T) {
	m, n := machine(t, "addi x1, x1, 1"), machine(t, "ecall")
	for range 3 {
		c := context(0x1000, nil)
		if event := hart.Step(m, 1, &c); event != (api.Event{}) || c.Regs[1] != 1 {
			t.Errorf("%+v, x1 is %d", event, c.Regs[1])
		}
		trapsAt(t, n, 1, context(0x1000, nil), api.Ecall, 0)
	}
}

// TestProgram: the greatest common measure of two numbers, and the counter of the document's ADDS.
func TestProgram(t *testing.T) {
	m := machine(t, "li x1, 1071\nli x2, 462\na: beq x2, x0, b\nremu x3, x1, x2\nadd x1, x2, x0\nadd x2, x3, x0\njal x0, a\nb: ebreak")
	c := context(0x1000, nil)
	var event api.Event
	for range 100 {
		if event = hart.Step(m, 1, &c); event.Trap {
			break
		}
	}
	if event.Cause != api.Break || c.Regs[1] != 21 {
		t.Errorf("%+v, x1 is %d", event, c.Regs[1])
	}

	const adds = "li x5, 0x2000\na: lw x6, 0(x5)\naddi x6, x6, 1\nsw x6, 0(x5)\njal x0, a"
	m = machine(t, adds)
	c = context(0x1000, nil)
	for range 22 {
		if event := hart.Step(m, 1, &c); event.Trap {
			t.Fatalf("it traps: %+v", event)
		}
	}
	place, _ := mmu.Walk(m, 1, 0x2000, api.Load)
	if w, _ := m.Word(place); w != 5 || c.Regs[6] != 5 || c.Pc != 0x1008 {
		t.Errorf("the word is %d, x6 %d, Pc %#x", w, c.Regs[6], c.Pc)
	}
}
