package spec

import (
	"slices"
	"strings"

	"vault/api"
)

// reader goes through the lines of a text, and through a line's words from the left. It remembers what went wrong first, and then reads on without harm: so whoever asks for words need not look behind each of them.
type reader struct {
	lines   []string
	line    int      // the number of the one that is being read
	words   []string // those of this line that are not read yet
	sayings []saying
	why     api.Errno
	wrong   int // the line that is wrong
	spec    Spec
}

// nextLine goes on to the next line; false: there is none.
func (r *reader) nextLine() bool {
	if r.line == len(r.lines) {
		return false
	}
	r.words = wordsOf(r.lines[r.line])
	r.line++
	return true
}

// say reads what a line says.
func (r *reader) say() {
	if !r.more() {
		return
	}
	first := r.word()
	i := slices.IndexFunc(r.sayings, func(s saying) bool { return s.first == first })
	if i < 0 {
		r.fail(api.ErrWord)
		return
	}
	r.sayings[i].read(r)
	r.noMore()
}

// more: words are left, and nothing is wrong till now.
func (r *reader) more() bool {
	return r.why == api.OK && len(r.words) > 0
}

func (r *reader) noMore() {
	if len(r.words) > 0 {
		r.fail(api.ErrForm)
	}
}

// word takes a word; "": it is missing, since no word is empty.
func (r *reader) word() string {
	if len(r.words) == 0 {
		r.fail(api.ErrForm)
		return ""
	}
	w := r.words[0]
	r.words = r.words[1:]
	return w
}

// until takes the lines behind this one up to one that is just that, which is taken too; false: there is none.
func (r *reader) until(last string) ([]string, bool) {
	rest := r.lines[r.line:]
	n := slices.IndexFunc(rest, func(line string) bool { return strings.Trim(line, " \t") == last })
	if n < 0 {
		return nil, false
	}
	r.line += n + 1
	return rest[:n], true
}

// fail: this line is wrong.
func (r *reader) fail(e api.Errno) {
	r.failAt(e, r.line)
}

func (r *reader) failAt(e api.Errno, line int) {
	if r.why == api.OK {
		r.why, r.wrong = e, line
	}
}

// wordsOf are those of a line.
func wordsOf(line string) []string {
	said, _, _ := strings.Cut(line, "#")
	return strings.FieldsFunc(said, func(c rune) bool { return c == ' ' || c == '\t' })
}
