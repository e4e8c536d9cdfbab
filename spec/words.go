package spec

import (
	"slices"
	"strconv"
	"strings"

	"vault/api"
)

// mostName is of how many letters a name is at most.
const mostName = 32

// number takes a number.
func (r *reader) number() int {
	digits, base := r.word(), 10
	if rest, hex := strings.CutPrefix(digits, "0x"); hex {
		digits, base = rest, 16
	}
	n, err := strconv.ParseUint(digits, base, 32)
	if err != nil {
		r.fail(api.ErrForm)
		return 0
	}
	return int(n)
}

// upTo takes a number up to another.
func (r *reader) upTo(most int) int {
	n := r.number()
	if n > most {
		r.fail(api.ErrRange)
	}
	return n
}

// page takes the number of a page.
func (r *reader) page() int {
	return r.upTo(api.MaxPages - 1)
}

// name takes a name.
func (r *reader) name() string {
	w := r.word()
	if !isName(w) {
		r.fail(api.ErrForm)
	}
	return w
}

// newName takes a name of which no line ahead tells.
func (r *reader) newName() string {
	name := r.name()
	if _, there := r.spec.Names[name]; there {
		r.fail(api.ErrTwice)
	}
	return name
}

// object takes the name of an object of one of these kinds, or of any, if none is told.
func (r *reader) object(kinds ...int) api.Object {
	o, there := r.spec.Names[r.name()]
	if !there {
		r.fail(api.ErrName)
	}
	if len(kinds) > 0 && !slices.Contains(kinds, o.Kind) {
		r.fail(api.ErrKind)
	}
	return o
}

// slot takes a slot: the box or thread that it is of, and its index.
func (r *reader) slot() api.Slot {
	of := r.object(api.Box, api.Thread)
	index := r.number()
	return api.Slot{Box: of.Num, Index: index}
}

// rights takes rights.
func (r *reader) rights() int {
	letters := r.word()
	if letters == "-" {
		return 0
	}
	all := 0
	for _, letter := range letters {
		right := rightOf(letter)
		if right == 0 || all&right != 0 {
			r.fail(api.ErrForm)
		}
		all |= right
	}
	return all
}

// digits takes bytes, of two digits each.
func (r *reader) digits() string {
	w := r.word()
	if len(w)%2 != 0 {
		r.fail(api.ErrForm)
		return ""
	}
	var all []byte
	for i := 0; i < len(w); i += 2 {
		b, err := strconv.ParseUint(w[i:i+2], 16, 8)
		if err != nil {
			r.fail(api.ErrForm)
		}
		all = append(all, byte(b))
	}
	return string(all)
}

// readiness takes the word that says whether a thread is ready.
func (r *reader) readiness() bool {
	w := r.word()
	if w != "ready" && w != "idle" {
		r.fail(api.ErrForm)
	}
	return w == "ready"
}

// register takes the name of a register that may be set: 0 always holds 0.
func (r *reader) register() int {
	w := r.word()
	for n := 1; n < 32; n++ {
		if w == "x"+strconv.Itoa(n) {
			return n
		}
	}
	r.fail(api.ErrForm)
	return 0
}

func isName(w string) bool {
	for i, c := range w {
		if !isLetter(c) && (i == 0 || !isDigit(c)) {
			return false
		}
	}
	return len(w) >= 1 && len(w) <= mostName
}

// isLetter: a name may begin with it.
func isLetter(c rune) bool {
	return c >= 'a' && c <= 'z' || c >= 'A' && c <= 'Z' || c == '_'
}

func isDigit(c rune) bool {
	return c >= '0' && c <= '9'
}

// rightOf is the right that a letter stands for; 0: none.
func rightOf(letter rune) int {
	switch letter {
	case 'r':
		return api.Read
	case 'w':
		return api.Write
	case 'g':
		return api.Grant
	case 'x':
		return api.Exec
	}
	return 0
}
