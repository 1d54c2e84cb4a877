package text

import (
	"iter"
	"strconv"
	"strings"

	"toolchest/api"
	"toolchest/calls"
	"toolchest/lines"
	"toolchest/opts"
)

// told is what a command told up to now.
type told struct {
	name     string
	out, err strings.Builder
	status   int
	misused  bool
	long     bool // Out has more than MaxText bytes
}

// put tells texts in Out. Of what is too long nothing more is kept, however much there is: nobody is told it.
func (w *told) put(texts ...string) {
	for _, s := range texts {
		w.long = w.long || w.out.Len()+len(s) > api.MaxText
		if !w.long {
			w.out.WriteString(s)
		}
	}
}

func (w *told) putLines(l []string) {
	for _, line := range l {
		w.put(line, "\n")
	}
}

// complain tells a line in Err.
func (w *told) complain(what string) {
	w.err.WriteString(w.name + ": " + what + "\n")
	w.status = 1
}

// result: a usage comes first, since it was seen ahead of all that would be too long.
func (w *told) result() api.Result {
	switch {
	case w.misused:
		return api.Result{Err: w.name + ": usage\n", Status: 2}
	case w.long:
		return api.Result{Err: w.name + ": too long\n", Status: 1}
	}
	return api.Result{Out: w.out.String(), Err: w.err.String(), Status: w.status}
}

// work is a command that is done: what it was handed, and what it told.
type work struct {
	told
	tree     api.Tree
	env      api.Env
	in       string
	flags    []api.Flag
	operands []string
}

func (w *work) has(letter byte) bool { return opts.Has(w.flags, letter) > 0 }

// number: what is told with an option; usual, if it is not told; false: it is none.
func (w *work) number(letter byte, usual int) (int, bool) {
	s, isTold := opts.Last(w.flags, letter)
	if !isTold {
		return usual, true
	}
	n, ok := opts.Number(s)
	return n, ok && n >= 0
}

// single: the byte that is told with an option, likewise.
func (w *work) single(letter, usual byte) (byte, bool) {
	s, isTold := opts.Last(w.flags, letter)
	switch {
	case !isTold:
		return usual, true
	case len(s) != 1:
		return 0, false
	}
	return s[0], true
}

// source is a text and the operand that told it; that is empty where there are no operands (and never else: no file can be read by an empty path).
type source struct{ operand, text string }

// label: what stands behind what is told of a text.
func (s source) label() string {
	if s.operand == "" {
		return ""
	}
	return " " + s.operand
}

// read: a file's text; false: it can't be read, which is told.
func (w *work) read(path string) (string, bool) {
	if path == "-" {
		return w.in, true
	}
	data, err := calls.Read(w.tree, w.env, path)
	if err != api.OK {
		w.complain(path + ": " + calls.Word(err))
		return "", false
	}
	return string(data), true
}

// texts: those of the operands that can be read; without operands what comes in.
func (w *work) texts() []source {
	if len(w.operands) == 0 {
		return []source{{text: w.in}}
	}
	var l []source
	for _, path := range w.operands {
		if s, ok := w.read(path); ok {
			l = append(l, source{operand: path, text: s})
		}
	}
	return l
}

// together: the texts, one behind the other. Whoever asks tells at least as many bytes; so false, if they are too long, and nothing is left to do.
func (w *work) together() (string, bool) {
	var all strings.Builder
	for _, s := range w.texts() {
		if all.Len()+len(s.text) > api.MaxText {
			w.long = true
			return "", false
		}
		all.WriteString(s.text)
	}
	return all.String(), true
}

// lines: of each text, one by one; no more of them once what is told is too long.
func (w *work) lines() iter.Seq[string] {
	return func(yield func(string) bool) {
		for _, s := range w.texts() {
			for _, line := range split(s.text) {
				if w.long || !yield(line) {
					return
				}
			}
		}
	}
}

func split(s string) []string {
	l, _ := lines.Split(s)
	return l
}

// wide: a number, with blanks ahead if it has fewer digits than its place.
func wide(n, place int) string {
	digits := strconv.Itoa(n)
	return strings.Repeat(" ", max(place-len(digits), 0)) + digits
}

// inCount: how wide uniq and wc tell a number.
const inCount = 7
