package spec_test

import (
	"math/bits"
	"reflect"
	"strings"
	"testing"

	"vault/api"
	"vault/spec"
)

// head tells of one object of each kind, in ten lines.
const head = "untyped u 16 4\nframe f 2\ntable t 3\nroot r 4\nbox b 5 8\nthread h 6\nend e 7\nbell l 8\nirq i 1\nport p 2\n"

const headLines = 10

func obj(kind, num int) api.Object { return api.Object{Kind: kind, Num: num} }

func slot(box, index int) api.Slot { return api.Slot{Box: box, Index: index} }

var none = slot(-1, -1)

func joined(lines ...string) string { return strings.Join(lines, "\n") }

// read is what a text says that is not refused.
func read(t *testing.T, text string) spec.Spec {
	t.Helper()
	s, e, line := spec.Parse(text)
	if e != api.OK || line != 0 {
		t.Fatalf("Parse(%q): %d, line %d", text, e, line)
	}
	return s
}

// said is what lines say beside those of head.
func said(t *testing.T, lines ...string) spec.Spec {
	t.Helper()
	s := read(t, head+joined(lines...))
	first := read(t, head)
	if len(s.Objects) < len(first.Objects) {
		t.Fatalf("%q: Objects is %v", lines, s.Objects)
	}
	s.Objects = s.Objects[len(first.Objects):]
	for name := range first.Names {
		delete(s.Names, name)
	}
	return s
}

// same: two lists are alike; nil and an empty one are.
func same(a, b any) bool {
	x, y := reflect.ValueOf(a), reflect.ValueOf(b)
	if k := x.Kind(); (k == reflect.Slice || k == reflect.Map) && x.Len() == 0 && y.Len() == 0 {
		return true
	}
	return reflect.DeepEqual(a, b)
}

func is(t *testing.T, what string, got, want any) {
	t.Helper()
	if !same(got, want) {
		t.Errorf("%s is %v, wanted %v", what, got, want)
	}
}

// isSpec holds all parts of what a text says against what is wanted.
func isSpec(t *testing.T, text string, got, want spec.Spec) {
	t.Helper()
	x, y := reflect.ValueOf(got.Spec), reflect.ValueOf(want.Spec)
	for i := range x.NumField() {
		is(t, text+": "+x.Type().Field(i).Name, x.Field(i).Interface(), y.Field(i).Interface())
	}
	is(t, text+": Names", got.Names, want.Names)
}

// refused: a text is, so, at that line, and nothing is told with it.
func refused(t *testing.T, text string, e api.Errno, line int) {
	t.Helper()
	s, why, at := spec.Parse(text)
	if why != e || at != line {
		t.Errorf("Parse(%q): %d, line %d, wanted %d, line %d", text, why, at, e, line)
	}
	isSpec(t, text, s, spec.Spec{})
}

// wrong: each of these lines is, behind those of head, wherever it stands.
func wrong(t *testing.T, e api.Errno, lines ...string) {
	t.Helper()
	for _, line := range lines {
		refused(t, head+line, e, headLines+1)
		refused(t, head+"\n# \n"+line+"\nworse\n", e, headLines+3)
	}
}

const adds = `pages 8
turn 0 9
root r 1
table t 2
frame c 3
frame d 4
box x 5 8
thread h 6
cap x 0 t rw
cap x 1 c rx
cap x 2 d rw
cap h 0 x rw guard 0 29
cap h 1 r rw
map x 0 r 0 -
map x 1 r 0x1000 rx
map x 2 r 0x2000 rw
code c 0
   li x5, 0x2000
a: lw x6, 0(x5)
   addi x6, x6, 1
   sw x6, 0(x5)
   jal x0, a
stop
start h 0 0 ready 0x1000
`

func TestAdds(t *testing.T) {
	var want spec.Spec
	want.Pages = 8
	want.Turns = []api.Turn{{Domain: 0, Ticks: 9}}
	want.Calls = 0x3ffffffe
	want.Objects = []api.ObjectSpec{{Object: obj(api.Root, 1)}, {Object: obj(api.Table, 2)}, {Object: obj(api.Frame, 3)}, {Object: obj(api.Frame, 4)}, {Object: obj(api.Box, 5), Size: 8}, {Object: obj(api.Thread, 6)}}
	want.Bytes = []api.BytesSpec{{At: 0x3000, Data: "\xb7\x22\x00\x00\x93\x82\x02\x00\x03\xa3\x02\x00\x13\x03\x13\x00\x23\xa0\x62\x00\x6f\xf0\x5f\xff"}}
	want.Caps = []api.CapSpec{
		{At: slot(5, 0), Cap: api.Cap{Object: obj(api.Table, 2), Rights: 3}, From: none},
		{At: slot(5, 1), Cap: api.Cap{Object: obj(api.Frame, 3), Rights: 5}, From: none},
		{At: slot(5, 2), Cap: api.Cap{Object: obj(api.Frame, 4), Rights: 3}, From: none},
		{At: slot(6, 0), Cap: api.Cap{Object: obj(api.Box, 5), Rights: 3, GuardBits: 29}, From: none},
		{At: slot(6, 1), Cap: api.Cap{Object: obj(api.Root, 1), Rights: 3}, From: none},
	}
	want.Maps = []api.MapSpec{{At: slot(5, 0), Root: 1}, {At: slot(5, 1), Root: 1, Va: 0x1000, Rights: 5}, {At: slot(5, 2), Root: 1, Va: 0x2000, Rights: 3}}
	want.Threads = []api.ThreadSpec{{Num: 6, Ready: true, Context: api.Context{Pc: 0x1000}}}
	want.Names = map[string]api.Object{"r": obj(api.Root, 1), "t": obj(api.Table, 2), "c": obj(api.Frame, 3), "d": obj(api.Frame, 4), "x": obj(api.Box, 5), "h": obj(api.Thread, 6)}
	isSpec(t, "adds", read(t, adds), want)
	refused(t, strings.Replace(adds, "map x 0 r 0 -", "map x 0 r 0", 1), api.ErrForm, 14)
	refused(t, strings.Replace(adds, "addi x6, x6, 1", "nop", 1), api.ErrWord, 20)
}

func TestExamples(t *testing.T) {
	s := read(t, "pages 3\nframe f 2")
	is(t, "Pages", s.Pages, 3)
	is(t, "Objects", s.Objects, []api.ObjectSpec{{Object: obj(api.Frame, 2)}})
	refused(t, "frame f 256", api.ErrRange, 1)
	refused(t, "frame 9a 2", api.ErrForm, 1)
	refused(t, "frame f 2\ncap f 0 f r", api.ErrKind, 2)
	refused(t, "frame f 2\nbox b 3 8\ncap b 0 f rr", api.ErrForm, 3)
	refused(t, "code f 0\nli x1, 5\nnop\nstop", api.ErrName, 1)
	refused(t, "frame f 2\ncode f 0\nli x1, 5\nnop\nstop", api.ErrWord, 4)
}

func TestNothing(t *testing.T) {
	for _, text := range []string{"", "\n", " ", "\t \t", "#", "# pages 3", "  # \n\t#frame f 2\n#\n"} {
		want := spec.Spec{Names: map[string]api.Object{}}
		want.Calls = 0x3ffffffe
		isSpec(t, text, read(t, text), want)
	}
}

func TestObjects(t *testing.T) {
	s := read(t, head)
	is(t, "Objects", s.Objects, []api.ObjectSpec{
		{Object: obj(1, 16+4*256)}, {Object: obj(2, 2)}, {Object: obj(3, 3)}, {Object: obj(4, 4)}, {Object: obj(5, 5), Size: 8}, {Object: obj(6, 6)}, {Object: obj(7, 7)}, {Object: obj(8, 8)},
	})
	is(t, "Names", s.Names, map[string]api.Object{
		"u": obj(1, 16+4*256), "f": obj(2, 2), "t": obj(3, 3), "r": obj(4, 4), "b": obj(5, 5), "h": obj(6, 6), "e": obj(7, 7), "l": obj(8, 8), "i": obj(9, 1), "p": obj(10, 2),
	})
	for _, word := range []string{"frame", "table", "root", "thread", "end", "bell"} {
		kind := map[string]int{"frame": 2, "table": 3, "root": 4, "thread": 6, "end": 7, "bell": 8}[word]
		for page, text := range map[int]string{0: "0", 255: "255", 10: "0xa"} {
			s := said(t, word+" n "+text)
			is(t, word, s.Objects, []api.ObjectSpec{{Object: obj(kind, page)}})
			is(t, word, s.Names, map[string]api.Object{"n": obj(kind, page)})
		}
		wrong(t, api.ErrForm, word, word+" n", word+" n n", word+" n 1 1", word+" n 1 n", word+" 9 1", word+" n -1")
		wrong(t, api.ErrRange, word+" n 256", word+" n 4294967295", word+" n 256 1")
		wrong(t, api.ErrTwice, word+" f 1", word+" i 1", word+" u 256", word+" b", word+" p x", word+" t 1 1")
	}
}

// TestMany: several names for one page, or number, are several objects: the kernel will say what it thinks of that.
func TestMany(t *testing.T) {
	s := said(t, "frame n 2", "frame m 2", "box o 2 8", "irq j 1", "irq k 1", "port q 1")
	is(t, "Objects", s.Objects, []api.ObjectSpec{{Object: obj(2, 2)}, {Object: obj(2, 2)}, {Object: obj(5, 2), Size: 8}})
	is(t, "Names", s.Names, map[string]api.Object{"n": obj(2, 2), "m": obj(2, 2), "o": obj(5, 2), "j": obj(9, 1), "k": obj(9, 1), "q": obj(10, 1)})
}

func TestBox(t *testing.T) {
	for size, text := range map[int]string{0: "0", 3: "3", 64: "0x40", 4294967295: "4294967295"} {
		is(t, "box", said(t, "box n 255 "+text).Objects, []api.ObjectSpec{{Object: obj(5, 255), Size: size}})
	}
	wrong(t, api.ErrForm, "box", "box n", "box n 1", "box n 1 n", "box n 1 1 1", "box n n 1", "box - 1 1", "box n 1 4294967296")
	wrong(t, api.ErrRange, "box n 256 1", "box n 256", "box n 256 n")
	wrong(t, api.ErrTwice, "box b 1 1", "box h 1 1", "box h 256 n")
}

func TestUntyped(t *testing.T) {
	for order := range 9 {
		want := obj(1, 255+256*order)
		s := said(t, "untyped n 255 "+string(rune('0'+order)))
		is(t, "untyped", s.Objects, []api.ObjectSpec{{Object: want}})
		is(t, "untyped", s.Names, map[string]api.Object{"n": want})
	}
	wrong(t, api.ErrForm, "untyped", "untyped n", "untyped n 1", "untyped n 1 n", "untyped n 1 1 1", "untyped n n 1", "untyped - 1 1")
	wrong(t, api.ErrRange, "untyped n 1 9", "untyped n 1 0xffffffff", "untyped n 256 1", "untyped n 256 9", "untyped n 256", "untyped n 1 9 1")
	wrong(t, api.ErrTwice, "untyped u 1 1", "untyped u 256 9")
}

func TestNamesAlone(t *testing.T) {
	for word, kind := range map[string]int{"irq": 9, "port": 10} {
		for n := range 8 {
			s := said(t, word+" n "+string(rune('0'+n)))
			is(t, word, s.Objects, []api.ObjectSpec{})
			is(t, word, s.Names, map[string]api.Object{"n": obj(kind, n)})
		}
		wrong(t, api.ErrForm, word, word+" n", word+" n n", word+" n 1 1", word+" 1 1")
		wrong(t, api.ErrRange, word+" n 8", word+" n 0xffffffff", word+" n 8 1")
		wrong(t, api.ErrTwice, word+" i 1", word+" p 1", word+" f 8")
	}
}

func TestPages(t *testing.T) {
	for n, text := range map[int]string{0: "0", 1: "1", 256: "256", 257: "257", 4294967295: "0xffffffff"} {
		is(t, "Pages", said(t, "pages "+text).Pages, n)
	}
	is(t, "the last Pages", said(t, "pages 3", "pages 5", "pages 4").Pages, 4)
	wrong(t, api.ErrForm, "pages", "pages n", "pages 1 1", "pages -1", "pages 4294967296")
}

func TestTurns(t *testing.T) {
	s := said(t, "turn 0 5", "turn 0 5", "turn 8 0", "turn 4294967295 0xFFFFFFFF")
	is(t, "Turns", s.Turns, []api.Turn{{Domain: 0, Ticks: 5}, {Domain: 0, Ticks: 5}, {Domain: 8, Ticks: 0}, {Domain: 4294967295, Ticks: 4294967295}})
	is(t, "seventeen turns", len(said(t, strings.Repeat("turn 1 2\n", 17)).Turns), 17)
	wrong(t, api.ErrForm, "turn", "turn 1", "turn 1 n", "turn n 1", "turn 1 1 1", "turn -1 1")
}

func TestCalls(t *testing.T) {
	for n := range 32 {
		number := "0x" + string("0123456789abcdef"[n/16]) + string("0123456789abcdef"[n%16])
		is(t, "calls "+number, said(t, "calls "+number).Calls, uint32(1)<<n)
	}
	is(t, "no calls", said(t, "calls").Calls, uint32(0))
	is(t, "some calls", said(t, "calls 1 0 31 1").Calls, uint32(0x80000003))
	is(t, "the last calls", said(t, "calls 1 2", "calls 7", "calls 4 5").Calls, uint32(0x30))
	is(t, "calls there are", bits.OnesCount32(read(t, "pages 1").Calls), 29)
	wrong(t, api.ErrRange, "calls 32", "calls 4294967295", "calls 1 2 32 n", "calls 63 -")
	wrong(t, api.ErrForm, "calls n", "calls 1 n 32", "calls -1", "calls 1,2", "calls 4294967296")
}

func TestBinds(t *testing.T) {
	s := said(t, "bind i l 0", "bind i l 4294967295", "irq j 7", "bell m 255", "bind j m 0x10")
	is(t, "Irqs", s.Irqs, []api.IrqSpec{{Line: 1, Bell: 8}, {Line: 1, Bell: 8, Badge: 4294967295}, {Line: 7, Bell: 255, Badge: 16}})
	wrong(t, api.ErrForm, "bind", "bind i", "bind i l", "bind i l l", "bind i l 1 1")
	wrong(t, api.ErrName, "bind n l 1", "bind i n 1", "bind n", "bind i n n")
	wrong(t, api.ErrKind, "bind l i 1", "bind l l 1", "bind i i 1", "bind i e 1", "bind p l 1", "bind l", "bind i e")
}

func TestMaps(t *testing.T) {
	s := said(t, "map b 0 r 0 -", "map h 3 r 0xfffff000 xwr", "map b 99 r 4294967295 g", "map b 4294967295 r 1 w")
	is(t, "Maps", s.Maps, []api.MapSpec{
		{At: slot(5, 0), Root: 4}, {At: slot(6, 3), Root: 4, Va: 0xfffff000, Rights: 7}, {At: slot(5, 99), Root: 4, Va: 0xffffffff, Rights: 4}, {At: slot(5, 4294967295), Root: 4, Va: 1, Rights: 2},
	})
	wrong(t, api.ErrForm, "map", "map b", "map b 0", "map b 0 r", "map b 0 r 0", "map b n r 0 r", "map b 0 r n r", "map b 0 r 0 0", "map b 0 r 0 r r", "map b -1 r 0 r", "map b 0 r -1 r")
	wrong(t, api.ErrName, "map n 0 r 0 r", "map b 0 n 0 r", "map n n n n n")
	wrong(t, api.ErrKind, "map f 0 r 0 r", "map r 0 r 0 r", "map b 0 f 0 r", "map b 0 t 0 r", "map b 0 b 0 r", "map u n n n n", "map b 0 h")
}

// TestOwn: what is told is the caller's, and nobody else's.
func TestOwn(t *testing.T) {
	text := adds + "bytes d 0 01\nirq i 1\nbell l 7\nbind i l 1\nturn 1 1\nbind i l 2\n"
	one, two := read(t, text), read(t, text)
	want := read(t, text)
	one.Turns[0].Ticks, one.Objects[0].Num, one.Bytes[0].At, one.Caps[0].At, one.Maps[0].Va, one.Threads[0].Context.Pc, one.Irqs[0].Badge = 77, 77, 77, none, 77, 77, 77
	one.Names["r"] = obj(0, 0)
	one.Names["more"] = obj(1, 1)
	isSpec(t, "the other one", two, want)
	isSpec(t, "a third one", read(t, text), want)
}
