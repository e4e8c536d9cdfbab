package spec_test

import (
	"strconv"
	"strings"
	"testing"

	"vault/api"
	"vault/spec"
)

func TestLines(t *testing.T) {
	s := read(t, " \tpages\t \t3 \t# 4\n\n#\n\t\nturn 0 5#6 7\nturn\t1\t1#\n")
	is(t, "Pages", s.Pages, 3)
	is(t, "Turns", s.Turns, []api.Turn{{Domain: 0, Ticks: 5}, {Domain: 1, Ticks: 1}})
	wrong(t, api.ErrForm, "frame n# 9", "pages #3", "pages 3 \\# 4")
	// Other bytes that stand for nothing to the eye are parts of words.
	for _, b := range []string{"\r", "\v", "\f", "\x00", "\u00a0", "\u2003", "\xff", "\x80", ",", "\\"} {
		wrong(t, api.ErrWord, b, "pages"+b, b+"pages 3", b+" pages 3")
		wrong(t, api.ErrForm, "pages 3"+b, "pages 3 "+b, "frame n"+b+" 1", "frame "+b+" 1", "pages"+" "+b+"3")
	}
	wrong(t, api.ErrWord, "page 3", "Pages 3", "PAGES 3", "pages3", "3 pages", "f", "stop", " stop ", "li x1, 5", "frames n 1", "-", "r", "cap:", "caps", "x1", "0", "untype", "code.", "_")
}

func TestLong(t *testing.T) {
	fill := func(text string, n int) string { return text + strings.Repeat("#", n-len(text)) }
	is(t, "20000 bytes", read(t, fill("pages 3\n", 20000)).Pages, 3)
	is(t, "20000 bytes", read(t, "pages"+strings.Repeat(" ", 19994)+"3").Pages, 3)
	refused(t, fill("pages 3\n", 20001), api.ErrLong, 0)
	refused(t, fill("worse\n", 20001), api.ErrLong, 0)
	refused(t, strings.Repeat("x", 50000), api.ErrLong, 0)
	is(t, "2000 lines", read(t, strings.Repeat("\n", 1999)+"pages 3").Pages, 3)
	is(t, "2000 lines", read(t, "pages 3"+strings.Repeat("\n", 1999)).Pages, 3)
	refused(t, "pages 3"+strings.Repeat("\n", 2000), api.ErrLong, 0)
	refused(t, "worse"+strings.Repeat("\n", 2000), api.ErrLong, 0)
	refused(t, strings.Repeat("\n", 1999)+"worse", api.ErrWord, 2000)
	refused(t, strings.Repeat("\n", 20000), api.ErrLong, 0)
	refused(t, strings.Repeat("\n", 20001), api.ErrLong, 0)
	refused(t, "\n\nworse\npages", api.ErrWord, 3)
}

func TestNumbers(t *testing.T) {
	for text, n := range map[string]int{
		"0": 0, "00": 0, "7": 7, "007": 7, "10": 10, "010": 10, "4294967295": 4294967295, "0004294967295": 4294967295,
		"0x0": 0, "0xa": 10, "0xA": 10, "0x10": 16, "0xFfFfFfFf": 4294967295, "0x00000000ffffffff": 4294967295, "0xdeadBEEF": 0xdeadbeef,
		strings.Repeat("0", 999) + "5": 5, "0x" + strings.Repeat("0", 999) + "5": 5,
	} {
		is(t, "pages "+text, read(t, "pages "+text).Pages, n)
		s := said(t, "turn "+text+" "+text, "map b "+text+" r "+text+" r", "cap b "+text+" e r badge "+text+" guard "+text+" "+text+" from b "+text, "start h "+text+" "+text+" idle "+text+" x7 "+text, "bind i l "+text, "box n 1 "+text)
		word := uint32(n)
		is(t, "turn", s.Turns, []api.Turn{{Domain: n, Ticks: n}})
		is(t, "map", s.Maps, []api.MapSpec{{At: slot(5, n), Root: 4, Va: word, Rights: 1}})
		is(t, "cap", s.Caps, []api.CapSpec{{At: slot(5, n), Cap: api.Cap{Object: obj(7, 7), Rights: 1, Badge: word, Guard: word, GuardBits: n}, From: slot(5, n)}})
		is(t, "start", s.Threads, []api.ThreadSpec{{Num: 6, Domain: n, Prio: n, Context: api.Context{Pc: word, Regs: [32]uint32{7: word}}}})
		is(t, "bind", s.Irqs, []api.IrqSpec{{Line: 1, Bell: 8, Badge: word}})
		is(t, "box", s.Objects, []api.ObjectSpec{{Object: obj(5, 1), Size: n}})
	}
	for _, none := range []string{
		"4294967296", "18446744073709551616", "18446744073709551621", "0x100000000", "0x10000000000000005", "9999999999999999999999",
		"-1", "-0", "+1", "--1", "0x", "0xg", "0x-1", "0x+1", "0x_1", "0x1_0", "0X1", "0X", "1_0", "_1", "x1", "x", "0b1", "0o7", "0x0x1", "00x1", "1x", "1a", "a", "ff", "1.0", "1e3", ".", "-", "f", "1,", "٣", "１", "0x１", "\"1\"", "1h", "0x1p3",
	} {
		wrong(t, api.ErrForm, "pages "+none, "turn "+none+" 1", "turn 1 "+none, "calls "+none, "calls 1 "+none, "frame n "+none, "box n 1 "+none, "box n "+none+" 1", "untyped n "+none+" 1", "untyped n 1 "+none, "irq n "+none, "port n "+none,
			"code f "+none+"\nstop", "bytes f "+none+" 00", "cap b "+none+" f r", "cap b 1 e r badge "+none, "cap b 1 e r guard "+none+" 1", "cap b 1 e r guard 1 "+none, "cap b 1 e r from b "+none,
			"map b "+none+" r 0 r", "map b 0 r "+none+" r", "start h "+none+" 0 idle 0", "start h 0 "+none+" idle 0", "start h 0 0 idle "+none, "start h 0 0 idle 0 x1 "+none, "bind i l "+none)
	}
}

func TestNames(t *testing.T) {
	long := strings.Repeat("n", 32)
	for _, name := range []string{"n", "N", "_", "__", "_9", "n9", "Z_z_09", "frame", "pages", "stop", "ready", "x1", "badge", "F", long, "_" + long[1:], long[1:] + "9"} {
		s := said(t, "frame "+name+" 9", "bytes "+name+" 0 00", "cap b 0 "+name+" r")
		is(t, name, s.Names, map[string]api.Object{name: obj(2, 9)})
		is(t, name, len(s.Bytes)+len(s.Caps), 2)
		refused(t, head+"frame "+name+" 9\nirq "+name+" 9", api.ErrTwice, headLines+2)
	}
	for c := range rune(256) {
		text := string(c)
		if strings.ContainsAny(text, " \t\n#") {
			continue
		}
		letter := c == '_' || c >= 'A' && c <= 'Z' || c >= 'a' && c <= 'z'
		digit := c >= '0' && c <= '9'
		nameIs(t, "Q"+text, letter || digit)
		nameIs(t, text+"Q", letter)
		nameIs(t, "Q"+string([]byte{byte(c)})+"Q", letter || digit)
	}
	for _, none := range []string{"9a", "9", "0x1", "n-m", "n.m", "n:", "-", "-n", "n,", "é", "né", "ñ", "\u017f", "\u212a", "n\u0301", "٣n", "n٣", long + "n", long + "9", strings.Repeat("n", 64), strings.Repeat("é", 16), "n\x80", "\xff", "n/m", "n[", "n`", "n{", "n@", "@n"} {
		nameIs(t, none, false)
	}
}

// nameIs: a word is a name, or none.
func nameIs(t *testing.T, word string, want bool) {
	t.Helper()
	for _, line := range []string{"frame " + word + " 9", "box " + word + " 9 1", "untyped " + word + " 9 1", "irq " + word + " 1"} {
		_, e, _ := spec.Parse(line)
		if e != api.OK && e != api.ErrForm || want != (e == api.OK) {
			t.Errorf("%q: %d, but that it is a name is %v", line, e, want)
		}
	}
}

// TestOrderOfName: the name is looked at ahead of what stands behind it, whether it is new behind whether it is one.
func TestOrderOfName(t *testing.T) {
	wrong(t, api.ErrForm, "frame 9a 256", "frame 9a f", "frame f- 1")
	wrong(t, api.ErrTwice, "frame f n", "frame f 256", "frame f")
	refused(t, "frame n 1\nframe m 2\nend n 3\nend m 3", api.ErrTwice, 3)
	refused(t, "frame n 256\nframe n 2", api.ErrRange, 1)
	// Large letters and small ones are not the same.
	is(t, "Names", read(t, "frame n 1\nframe N 1").Names, map[string]api.Object{"n": obj(2, 1), "N": obj(2, 1)})
}

func TestKinds(t *testing.T) {
	names := "uftrbhelip" // by their kinds, from 1 on
	for kind, name := range names {
		kind := kind + 1
		n := string(name)
		for text, fits := range map[string]bool{
			"code " + n + " 0\nstop":          kind == api.Frame,
			"bytes " + n + " 0 00":            kind == api.Frame,
			"cap " + n + " 0 f r":             kind == api.Box || kind == api.Thread,
			"cap b 0 " + n + " r":             true,
			"cap b 0 f r from " + n + " 0":    kind == api.Box || kind == api.Thread,
			"map " + n + " 0 r 0 r":           kind == api.Box || kind == api.Thread,
			"map b 0 " + n + " 0 r":           kind == api.Root,
			"start " + n + " 0 0 idle 0":      kind == api.Thread,
			"bind " + n + " l 0":              kind == api.Irq,
			"bind i " + n + " 0":              kind == api.Bell,
			"cap " + n + " 0 " + n + " - # x": kind == api.Box || kind == api.Thread,
		} {
			if fits {
				read(t, head+text)
			} else {
				wrong(t, api.ErrKind, text)
			}
		}
	}
}

// asked are lines that name an object, one for each place where one is wanted; behind each place words are missing, or wrong, in the second half of them.
func asked(word string) []string {
	return []string{
		"code " + word + " 0\nstop", "bytes " + word + " 0 00", "cap " + word + " 0 f r", "cap b 0 " + word + " r", "cap b 0 f r from " + word + " 0", "map " + word + " 0 r 0 r", "map b 0 " + word + " 0 r", "start " + word + " 0 0 idle 0", "bind " + word + " l 0", "bind i " + word + " 0",
		"code " + word, "bytes " + word + " 5000 00", "cap " + word + " 0 n r", "cap b 0 " + word, "cap b 0 f r badge 1 from " + word + " 0 badge 1", "map " + word + " 0 f 0 r", "map b 0 " + word, "start " + word + " f", "bind " + word + " f 0", "bind i " + word,
	}
}

// TestObjectsAsked: where an object is wanted, a word is first to be a name, and then to be told of ahead.
func TestObjectsAsked(t *testing.T) {
	long := strings.Repeat("n", 32)
	for _, name := range []string{"n", "F", "_", "f_", "f9", "frame", "stop", "from", "x1", long, "_" + long[1:]} {
		wrong(t, api.ErrName, asked(name)...)
	}
	for _, none := range []string{"9a", "0", "2", "0x01", "4294967296", "-", "-f", "f-", "f-f", "f.", "f:", "f,", "é", "fé", "\u017f", "f\u0301", "٣", "f٣", "\xff", "f\x80", "f\r", "f\x00", long + "n", long + "9", strings.Repeat("é", 16)} {
		wrong(t, api.ErrForm, asked(none)...)
	}
	// Of two words the one on the left is told, whichever of the two is no name.
	wrong(t, api.ErrName, "cap n 0 9 r", "map n 0 9 0 r", "bind n 9 0", "cap b 0 n r from 9 0")
	wrong(t, api.ErrForm, "cap 9 0 n r", "map 9 0 n 0 r", "bind 9 n 0", "cap b 0 9 r from n 0")
	wrong(t, api.ErrKind, "cap f 0 9 r", "map f 0 9 0 r", "bind f 9 0")
	refused(t, "cap 0", api.ErrForm, 1)
	refused(t, "cap n", api.ErrName, 1)
	refused(t, "bytes f 0 00\nframe f 1", api.ErrName, 1)
	refused(t, "box b 1 8\ncap b 0 c r\nbox c 2 8", api.ErrName, 2)
	// A word that a line ahead would have told of, had it been a name.
	refused(t, "frame 9a 2\nbytes 9a 0 00", api.ErrForm, 1)
}

func TestRights(t *testing.T) {
	try := func(rights string) {
		t.Helper()
		count := func(letters string) int { return strings.Count(rights, letters) }
		r, w, g := count("r"), count("w"), count("g")+count("x")
		if rights != "-" && (r > 1 || w > 1 || g > 1 || r+w+g < len(rights)) {
			wrong(t, api.ErrForm, "cap b 0 f "+rights, "map b 0 r 0 "+rights)
			return
		}
		s := said(t, "cap b 0 f "+rights, "map b 0 r 0 "+rights)
		is(t, rights, s.Caps[0].Cap.Rights, r+2*w+4*g)
		is(t, rights, s.Maps[0].Rights, r+2*w+4*g)
	}
	for n := 1; n < 6*6*6*6; n++ {
		digits := strconv.FormatInt(int64(n), 6)
		try(strings.NewReplacer("0", "r", "1", "w", "2", "g", "3", "x", "4", "-", "5", "q").Replace(digits))
	}
	for _, none := range []string{"R", "W", "G", "X", "RW", "rW", "0", "7", "r,w", "r|w", "--", "rwgr", "é", "r\xff", "\xff", "re", "rwxg", "read", "none"} {
		wrong(t, api.ErrForm, "cap b 0 f "+none, "map b 0 r 0 "+none)
	}
}
