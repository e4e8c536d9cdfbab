package spec

import (
	"slices"
	"strings"

	"vault/api"
	"vault/asm"
)

// mostOrder is the order of the greatest untyped: it is as great as the greatest memory.
const mostOrder = 8

// saying is a sort of line: its first word, and how what stands behind that is read.
type saying struct {
	first string
	read  func(r *reader)
}

func sayings() []saying {
	return []saying{
		{"pages", (*reader).pages},
		{"turn", (*reader).turn},
		{"calls", (*reader).calls},
		{"frame", onePage(api.Frame)},
		{"table", onePage(api.Table)},
		{"root", onePage(api.Root)},
		{"thread", onePage(api.Thread)},
		{"end", onePage(api.End)},
		{"bell", onePage(api.Bell)},
		{"box", (*reader).box},
		{"untyped", (*reader).untyped},
		{"irq", nameAlone(api.Irq, api.MaxIrq)},
		{"port", nameAlone(api.Port, api.MaxPort)},
		{"code", (*reader).code},
		{"bytes", (*reader).bytes},
		{"cap", (*reader).capability},
		{"map", (*reader).mapping},
		{"start", (*reader).start},
		{"bind", (*reader).bind},
	}
}

func (r *reader) pages() {
	r.spec.Pages = r.number()
}

func (r *reader) turn() {
	domain := r.number()
	ticks := r.number()
	r.spec.Turns = append(r.spec.Turns, api.Turn{Domain: domain, Ticks: ticks})
}

func (r *reader) calls() {
	r.spec.Calls = 0
	for r.more() {
		r.spec.Calls |= 1 << r.upTo(31)
	}
}

// onePage reads of an object that is a page, and of which there is no more to say.
func onePage(kind int) func(r *reader) {
	return func(r *reader) {
		name := r.newName()
		page := r.page()
		r.add(name, api.Object{Kind: kind, Num: page}, 0)
	}
}

func (r *reader) box() {
	name := r.newName()
	page := r.page()
	slots := r.number()
	r.add(name, api.Object{Kind: api.Box, Num: page}, slots)
}

func (r *reader) untyped() {
	name := r.newName()
	page := r.page()
	order := r.upTo(mostOrder)
	r.add(name, api.Object{Kind: api.Untyped, Num: page + api.MaxPages*order}, 0)
}

// add: there is one more object, of that name.
func (r *reader) add(name string, o api.Object, size int) {
	r.spec.Names[name] = o
	r.spec.Objects = append(r.spec.Objects, api.ObjectSpec{Object: o, Size: size})
}

// nameAlone reads of an object that is there without being told of, and so gets but a name; there are so many of its kind.
func nameAlone(kind, count int) func(r *reader) {
	return func(r *reader) {
		name := r.newName()
		n := r.upTo(count - 1)
		r.spec.Names[name] = api.Object{Kind: kind, Num: n}
	}
}

func (r *reader) code() {
	frame := r.object(api.Frame)
	offset := r.number()
	r.noMore() // ahead of what is wrong with the lines behind
	line := r.line
	source, ok := r.until("stop")
	if !ok {
		r.fail(api.ErrForm)
		return
	}
	data, e, wrong := asm.Assemble(strings.Join(source, "\n"))
	if e != api.OK {
		r.failAt(e, line+wrong)
		return
	}
	if !r.lay(frame, offset, data) {
		r.failAt(api.ErrRange, line)
	}
}

func (r *reader) bytes() {
	frame := r.object(api.Frame)
	offset := r.number()
	data := r.digits()
	if !r.lay(frame, offset, data) {
		r.fail(api.ErrRange)
	}
}

// lay: these bytes stand in a frame, from an offset on; false: they have no room there.
func (r *reader) lay(frame api.Object, offset int, data string) bool {
	if offset+len(data) > api.PageLen {
		return false
	}
	r.spec.Bytes = append(r.spec.Bytes, api.BytesSpec{At: frame.Num*api.PageLen + offset, Data: data})
	return true
}

func (r *reader) capability() {
	c := api.CapSpec{From: api.Slot{Box: api.None, Index: api.None}}
	c.At = r.slot()
	c.Cap.Object = r.object()
	c.Cap.Rights = r.rights()
	var told []string
	for r.more() {
		what := r.part(&c)
		if slices.Contains(told, what) {
			r.fail(api.ErrTwice)
		}
		told = append(told, what)
	}
	r.spec.Caps = append(r.spec.Caps, c)
}

// part takes one more thing that is told of a capability, and tells which.
func (r *reader) part(c *api.CapSpec) string {
	what := r.word()
	switch what {
	case "badge":
		c.Cap.Badge = uint32(r.number())
	case "guard":
		c.Cap.Guard = uint32(r.number())
		c.Cap.GuardBits = r.number()
	case "from":
		c.From = r.slot()
	default:
		r.fail(api.ErrForm)
	}
	return what
}

func (r *reader) mapping() {
	at := r.slot()
	root := r.object(api.Root)
	va := r.number()
	rights := r.rights()
	r.spec.Maps = append(r.spec.Maps, api.MapSpec{At: at, Root: root.Num, Va: uint32(va), Rights: rights})
}

func (r *reader) start() {
	var s api.ThreadSpec
	s.Num = r.object(api.Thread).Num
	s.Domain = r.number()
	s.Prio = r.number()
	s.Ready = r.readiness()
	s.Context.Pc = uint32(r.number())
	for r.more() {
		n := r.register()
		s.Context.Regs[n] = uint32(r.number())
	}
	r.spec.Threads = append(r.spec.Threads, s)
}

func (r *reader) bind() {
	line := r.object(api.Irq)
	bell := r.object(api.Bell)
	badge := r.number()
	r.spec.Irqs = append(r.spec.Irqs, api.IrqSpec{Line: line.Num, Bell: bell.Num, Badge: uint32(badge)})
}
