package spec_test

import (
	"strconv"
	"strings"
	"testing"

	"vault/api"
)

func TestCode(t *testing.T) {
	ecall, ebreak := "\x73\x00\x00\x00", "\x73\x00\x10\x00"
	s := said(t, "code f 0", "stop", "code f 8 # a note", "ecall", "stop", "code f 0x7fd", "\tebreak#", " # stop", "", "a:", "ecall", " \t stop\t ", "pages 3", "frame g 255", "code g 4092", "ecall", "stop")
	is(t, "Bytes", s.Bytes, []api.BytesSpec{{At: 2 * 4096}, {At: 2*4096 + 8, Data: ecall}, {At: 2*4096 + 0x7fd, Data: ebreak + ecall}, {At: 255*4096 + 4092, Data: ecall}})
	is(t, "Pages", s.Pages, 3)
	// Labels are each code's own.
	s = said(t, "code f 0", "a: jal x0, a", "stop", "code f 0", "ecall", "a: jal x0, a", "stop")
	is(t, "Bytes", s.Bytes, []api.BytesSpec{{At: 2 * 4096, Data: "\x6f\x00\x00\x00"}, {At: 2 * 4096, Data: ecall + "\x6f\x00\x00\x00"}})
	// The last one may be the text's last line, or not.
	is(t, "one more line", len(said(t, "code f 0", "stop", "").Bytes), 1)
	is(t, "what is like stop", said(t, "code f 0", "stop:", "", " stop", "").Bytes, []api.BytesSpec{{At: 2 * 4096}})
}

func TestCodeRefused(t *testing.T) {
	wrong(t, api.ErrForm, "code", "code f", "code f n", "code f 0 0", "code f 0 0\nstop", "code f\nstop", "code f 0 stop", "code f 5000 0\nstop")
	wrong(t, api.ErrName, "code n 0\nstop", "code n", "code n n\nnop\nstop")
	wrong(t, api.ErrKind, "code e 0\nstop", "code e", "code e n")
	// Its error, and its line.
	at := func(e api.Errno, line int, lines ...string) {
		t.Helper()
		refused(t, head+joined(lines...), e, headLines+line)
		refused(t, "\n"+head+"\n"+joined(lines...)+"\nworse", e, headLines+line+2)
	}
	at(api.ErrWord, 3, "code f 0", "li x1, 5", "nop", "stop")
	at(api.ErrWord, 2, "code f 0", "pages 3", "stop")
	at(api.ErrWord, 2, "code f 0", "code f 0", "stop", "stop")
	at(api.ErrWord, 2, "code f 0", "stop # a note", "stop")
	at(api.ErrWord, 2, "code f 0", "Stop", "stop")
	at(api.ErrWord, 2, "code f 0", "stop\r", "stop")
	at(api.ErrWord, 2, "code f 0", "stop stop", "stop")
	at(api.ErrForm, 3, "code f 0", "ecall", "add x1", "nop", "stop", "worse")
	at(api.ErrTwice, 4, "code f 0", "a:", "", "a:", "stop")
	at(api.ErrRange, 2, "code f 0", "addi x1, x1, 2048", "ecall", "stop")
	at(api.ErrName, 3, "code f 0", "ecall", "jal x0, b", "stop", "code f 0", "b:", "stop")
	at(api.ErrWord, 2, "code f 0", "nop\n\n", "stop")
	at(api.ErrWord, 3, "code f 0", "stop", "stop")
	at(api.ErrWord, 6, "code f 0", "ecall", "stop", "code f 0", "ecall", "nop", "stop")
	// No line is stop.
	for _, text := range []string{"code f 0", "code f 0\n", "code f 0\necall", "code f 0\nnop", "code f 5000\nnop", "code f 0\nstop #", "code f 0\nstop.", "code f 0\n\"stop\"", "code f 0\nsto p", "code f 0\nstop\v", "code f 0\nSTOP"} {
		refused(t, head+text, api.ErrForm, headLines+1)
	}
	refused(t, head+"code f 0\nstop\ncode f 0\nnop", api.ErrForm, headLines+3)
	// It has no room: that is told at the line code, and behind what asm says.
	at(api.ErrRange, 1, "code f 4093", "ecall", "stop")
	at(api.ErrRange, 1, "code f 4097", "stop")
	at(api.ErrRange, 1, "code f 4294967295", "", "stop")
	at(api.ErrRange, 1, "code f 4092", "", "ecall", "ecall", "stop")
	at(api.ErrRange, 3, "code f 0", "stop", "code f 4089", "li x1, 0", "stop")
	at(api.ErrWord, 3, "code f 4097", "ecall", "nop", "stop")
	is(t, "nothing at the frame's end", said(t, "code f 4096", "stop").Bytes, []api.BytesSpec{{At: 3 * 4096}})
	many := strings.Repeat("ecall\n", 1024)
	is(t, "a frame that is full", len(said(t, "code f 0\n"+many+"stop").Bytes[0].Data), 4096)
	refused(t, head+"code f 1\n"+many+"stop", api.ErrRange, headLines+1)
	refused(t, head+"code f 0\n"+many+"ecall\nstop", api.ErrRange, headLines+1)
}

func TestBytes(t *testing.T) {
	s := said(t, "bytes f 0 00", "bytes f 4095 fF", "bytes f 0x10 0123456789abcdefABCDEF", "frame g 0", "bytes g 1 7f80", "bytes g 1 7f80")
	is(t, "Bytes", s.Bytes, []api.BytesSpec{{At: 2 * 4096, Data: "\x00"}, {At: 2*4096 + 4095, Data: "\xff"}, {At: 2*4096 + 16, Data: "\x01\x23\x45\x67\x89\xab\xcd\xef\xab\xcd\xef"}, {At: 1, Data: "\x7f\x80"}, {At: 1, Data: "\x7f\x80"}})
	for n := range 256 {
		small := strconv.FormatInt(int64(256+n), 16)[1:]
		s := said(t, "bytes f 9 "+small+strings.ToUpper(small))
		is(t, small, s.Bytes, []api.BytesSpec{{At: 2*4096 + 9, Data: string([]byte{byte(n), byte(n)})}})
	}
	full := strings.Repeat("5a", 4096)
	is(t, "a frame that is full", said(t, "bytes f 0 "+full).Bytes, []api.BytesSpec{{At: 2 * 4096, Data: strings.Repeat("Z", 4096)}})
	wrong(t, api.ErrForm, "bytes", "bytes f", "bytes f 0", "bytes f n 00", "bytes f 0 0", "bytes f 0 000", "bytes f 0 0g", "bytes f 0 g0", "bytes f 0 0x00", "bytes f 0 00 00", "bytes f 0 -1", "bytes f 0 +1", "bytes f 0 _1", "bytes f 0 1_", "bytes f 0 0é", "bytes f 0 \xff\xff", "bytes f 0 00zz", "bytes f 0 zz00", "bytes f 5000", "bytes f 5000 0", "bytes f 5000 0g", "bytes f 4095 00g", "bytes f 4095 00gg", "bytes f 0 00.0", "bytes f -1 00")
	wrong(t, api.ErrRange, "bytes f 4096 00", "bytes f 4095 0011", "bytes f 4294967295 00", "bytes f 5000 00 00", "bytes f 4096 00 g", "bytes f 1 "+full, "bytes f 0 "+full+"00")
	wrong(t, api.ErrName, "bytes n 0 00", "bytes n", "bytes n 5000 0g")
	wrong(t, api.ErrKind, "bytes t 0 00", "bytes r", "bytes e 5000 0g")
}

func TestCaps(t *testing.T) {
	s := said(t, "cap b 0 f r", "cap h 3 u rwg", "cap b 4294967295 p -", "cap b 0 l w badge 5", "cap b 1 b x guard 0xffffffff 33", "cap h 0 e g from h 9", "cap b 0 i r badge 1 guard 2 3 from b 4")
	is(t, "Caps", s.Caps, []api.CapSpec{
		{At: slot(5, 0), Cap: api.Cap{Object: obj(2, 2), Rights: 1}, From: none},
		{At: slot(6, 3), Cap: api.Cap{Object: obj(1, 16+4*256), Rights: 7}, From: none},
		{At: slot(5, 4294967295), Cap: api.Cap{Object: obj(10, 2)}, From: none},
		{At: slot(5, 0), Cap: api.Cap{Object: obj(8, 8), Rights: 2, Badge: 5}, From: none},
		{At: slot(5, 1), Cap: api.Cap{Object: obj(5, 5), Rights: 4, Guard: 0xffffffff, GuardBits: 33}, From: none},
		{At: slot(6, 0), Cap: api.Cap{Object: obj(7, 7), Rights: 4}, From: slot(6, 9)},
		{At: slot(5, 0), Cap: api.Cap{Object: obj(9, 1), Rights: 1, Badge: 1, Guard: 2, GuardBits: 3}, From: slot(5, 4)},
	})
	parts := []string{" badge 1", " guard 2 3", " from b 4"}
	for _, order := range [][3]int{{0, 1, 2}, {0, 2, 1}, {1, 0, 2}, {1, 2, 0}, {2, 0, 1}, {2, 1, 0}} {
		line := "cap b 0 i r" + parts[order[0]] + parts[order[1]] + parts[order[2]]
		is(t, line, said(t, line).Caps, s.Caps[6:])
		for _, again := range parts {
			wrong(t, api.ErrTwice, line+again, line+again+" more", line+again+again)
		}
	}
	wrong(t, api.ErrForm, "cap", "cap b", "cap b 0", "cap b 0 f", "cap b n f r", "cap b 0 f 1", "cap b 0 f r r", "cap b 0 f r 5", "cap b 0 f r Badge 5", "cap b 0 f badge 5", "cap b 0 f r badge", "cap b 0 f r badge n", "cap b 0 f r badge 5 6", "cap b 0 f r guard", "cap b 0 f r guard 1", "cap b 0 f r guard 1 n", "cap b 0 f r guard n 1", "cap b 0 f r guard 1 1 1", "cap b 0 f r from", "cap b 0 f r from b", "cap b 0 f r from b n", "cap b 0 f r from b 0 0", "cap b 0 f r badge guard 1 1", "cap b 0 f r with 1", "cap b 0 f r with with", "cap b 0 f r from b badge 1")
	wrong(t, api.ErrName, "cap n", "cap n n n n", "cap b 0 n", "cap b 0 n n", "cap b 0 f r from n", "cap b 0 f r from n 0", "cap b 0 f r badge 1 from n 0 badge 1", "cap b 0 f r from from from")
	wrong(t, api.ErrKind, "cap f", "cap f n", "cap u 0 f r", "cap b 0 f r from f", "cap b 0 f r from r 0")
	// A second time is told when it and what belongs to it are read.
	wrong(t, api.ErrForm, "cap b 0 f r badge 1 badge", "cap b 0 f r badge 1 badge n", "cap b 0 f r badge 1 badge badge 1", "cap b 0 f r guard 1 1 guard 1", "cap b 0 f r guard 1 1 guard n", "cap b 0 f r from b 0 from", "cap b 0 f r from b 0 from b", "cap b 0 f r from b 0 from b n", "cap b 0 f r badge 1 more badge 1")
	wrong(t, api.ErrName, "cap b 0 f r from b 0 from n 0")
	wrong(t, api.ErrKind, "cap b 0 f r from b 0 from f 0")
	wrong(t, api.ErrTwice, "cap b 0 f r badge 1 badge 1", "cap b 0 f r badge 1 badge 2 n", "cap b 0 f r guard 1 1 guard 1 1", "cap b 0 f r from b 0 from h 1", "cap b 0 f r badge 1 badge 1 from n 0", "cap b 0 f r badge 0 badge 0")
}

func TestStarts(t *testing.T) {
	s := said(t, "start h 0 0 ready 0", "start h 7 6 idle 0x1000", "thread k 255", "start k 4294967295 4294967295 ready 4294967295 x31 4294967295", "start h 1 2 idle 3 x1 4 x2 5 x1 0x6 x10 7")
	is(t, "Threads", s.Threads, []api.ThreadSpec{
		{Num: 6, Ready: true},
		{Num: 6, Domain: 7, Prio: 6, Context: api.Context{Pc: 0x1000}},
		{Num: 255, Domain: 4294967295, Prio: 4294967295, Ready: true, Context: api.Context{Pc: 4294967295, Regs: [32]uint32{31: 4294967295}}},
		{Num: 6, Domain: 1, Prio: 2, Context: api.Context{Pc: 3, Regs: [32]uint32{1: 6, 2: 5, 10: 7}}},
	})
	all, want := "start h 0 0 ready 0", api.ThreadSpec{Num: 6, Ready: true}
	for n := 31; n > 0; n-- {
		x := " x" + strconv.Itoa(n)
		all += x + " 9" + x + " " + strconv.Itoa(1000+n)
		want.Context.Regs[n] = uint32(1000 + n)
		one := api.ThreadSpec{Num: 6, Ready: true}
		one.Context.Regs[n] = 77
		is(t, x, said(t, "start h 0 0 ready 0"+x+" 77").Threads, []api.ThreadSpec{one})
	}
	is(t, "all registers", said(t, all).Threads, []api.ThreadSpec{want})
	wrong(t, api.ErrForm, "start", "start h", "start h 0", "start h 0 0", "start h 0 0 ready", "start h 0 0 0", "start h 0 0 busy 0", "start h 0 0 Ready 0", "start h 0 0 READY 0", "start h 0 0 readyy 0", "start h 0 0 ready idle", "start h 0 0 ready 0 5", "start h 0 0 ready 0 x1", "start h 0 0 ready 0 x1 x2", "start h 0 0 ready 0 x1 5 5", "start h 0 0 ready 0 x1 5 x2", "start h n 0 ready 0", "start h 0 n ready 0", "start h 0 0 ready n", "start h ready 0 0 0", "start h -1 0 ready 0")
	for _, x := range []string{"x0", "x32", "x33", "x00", "x01", "x031", "x", "X1", "x-1", "x+1", "x1x", "1", "x100", "x0x1", "a0", "ra", "pc", "x_1", "x１", "xx1", "x1,", "x4294967297", "x18446744073709551617"} {
		wrong(t, api.ErrForm, "start h 0 0 ready 0 "+x+" 5", "start h 0 0 ready 0 "+x, "start h 0 0 ready 0 x1 5 "+x+" 5", "start h 0 0 ready 0 "+x+" n")
	}
	wrong(t, api.ErrName, "start n 0 0 ready 0", "start n", "start n n n n n")
	wrong(t, api.ErrKind, "start b 0 0 ready 0", "start b", "start e n")
}
