package vault

import (
	"strconv"
	"strings"

	"vault/api"
	"vault/pool"
)

// View: all that there is of a part: what lies in pages from one to ahead of another, the lines, ports, domains whose bits are set. ErrArg: no such pages.
func (s *System) View(from, to int, lines, ports, domains uint32) (string, api.Errno) {
	if from < 0 || from > to || to > s.pages {
		return "", api.ErrArg
	}
	v := view{system: s, from: from, to: to}
	v.objects()
	v.threads()
	v.caps()
	// There are as many interrupts as ports and domains.
	for n := range api.MaxDomain {
		bit := uint32(1) << n
		if lines&bit != 0 {
			v.irq(n)
		}
		if ports&bit != 0 {
			v.port(n)
		}
		if domains&bit != 0 {
			v.queues(n)
		}
	}
	return v.text.String(), api.OK
}

// view is what is told of the pages from one to ahead of another, as far as it is told.
type view struct {
	system   *System
	from, to int
	text     strings.Builder
}

func (v *view) has(page int) bool {
	return v.from <= page && page < v.to
}

func (v *view) line(words ...string) {
	v.text.WriteString(strings.Join(words, " "))
	v.text.WriteByte('\n')
}

func (v *view) objects() {
	for _, o := range v.system.Objects() {
		if v.has(firstPage(o)) {
			v.object(o)
		}
	}
}

func firstPage(o api.Object) int {
	if o.Kind != api.Untyped {
		return o.Num
	}
	page, _ := pool.Split(o.Num)
	return page
}

func (v *view) object(o api.Object) {
	switch o.Kind {
	case api.Untyped:
		mark, _ := v.system.Mark(o.Num)
		v.line("untyped", number(o.Num), number(mark))
	case api.Frame, api.Table, api.Root:
		v.page(o)
	case api.End, api.Bell:
		v.place(o)
	case api.Box:
		size, _ := v.system.Size(o.Num)
		v.line("box", number(o.Num), number(size))
	}
}

// pieceLen is how many bytes of a page are told in one line.
const pieceLen = 64

func (v *view) page(o api.Object) {
	v.line("page", number(o.Kind), number(o.Num))
	bytes, _ := v.system.Peek(o.Num*api.PageLen, api.PageLen)
	for at := 0; at < len(bytes); at += pieceLen {
		piece := bytes[at : at+pieceLen]
		if strings.Trim(piece, "\x00") != "" {
			v.line(" ", number(at), digits(piece))
		}
	}
}

func (v *view) place(o api.Object) {
	word, _ := v.system.Word(o.Num) // of an end that is refused, with 0
	threads, _ := v.system.Line(o.Num)
	v.line("place", number(o.Kind), number(o.Num), number(word), numbers(threads))
}

func (v *view) threads() {
	for _, t := range v.system.Threads() {
		if v.has(t.Num) {
			v.thread(t)
		}
	}
}

func (v *view) thread(t api.ThreadLook) {
	v.line("thread", number(t.Num), number(t.State), number(t.Domain), number(t.Prio),
		number(t.At), number(t.Caller), number(t.Waits), number(t.Left), number(t.Context.Pc))
	for i, n := range t.Context.Regs {
		if n != 0 {
			v.line("", "x"+number(i), number(n))
		}
	}
}

func (v *view) caps() {
	for _, x := range v.system.Entries() {
		if v.has(x.At.Box) {
			v.entry(x)
		}
	}
}

func (v *view) entry(x api.Entry) {
	c := x.Cap
	v.line("cap", number(x.At.Box), number(x.At.Index), number(c.Kind), number(c.Num),
		number(c.Rights), number(c.Badge), number(c.Guard), number(c.GuardBits), number(c.Root), number(c.Va),
		"from", number(x.From.Box), number(x.From.Index))
}

func (v *view) irq(n int) {
	bell, badge, masked, pending, _ := v.system.Irq(n)
	v.line("irq", number(n), number(bell), number(badge), strconv.FormatBool(masked), strconv.FormatBool(pending))
}

func (v *view) port(n int) {
	in, out, _ := v.system.Waiting(n)
	v.line("port", number(n), digits(in), digits(out))
}

func (v *view) queues(domain int) {
	for prio := range api.MaxPrio {
		threads, _ := v.system.Queue(domain, prio)
		v.line("queue", number(domain), number(prio), numbers(threads))
	}
}

func number[T int | uint32](n T) string {
	return strconv.FormatInt(int64(n), 10)
}

// numbers: all of them as one word.
func numbers(l []int) string {
	words := make([]string, len(l))
	for i, n := range l {
		words[i] = number(n)
	}
	return strings.Join(words, ",")
}

// digits: two to the base 16 for each byte.
func digits(bytes string) string {
	const hex = "0123456789abcdef"
	var b strings.Builder
	for i := range len(bytes) {
		b.WriteByte(hex[bytes[i]>>4])
		b.WriteByte(hex[bytes[i]&15])
	}
	return b.String()
}
