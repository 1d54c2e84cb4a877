package text

import (
	"slices"
	"strings"

	"toolchest/api"
	"toolchest/keys"
	"toolchest/opts"
	"toolchest/sorts"
)

// Commands that put lines in order, or ask whether they are.

func (w *work) sort() bool {
	o, ok := w.order()
	if !ok {
		return false
	}
	unique := w.has('u')
	if w.has('c') {
		if !w.isSorted(o, unique) {
			w.complain("not in order")
		}
		return true
	}
	var all []string
	for line := range w.lines() {
		all = append(all, line)
		if len(all) > api.MaxLines { // refused already, however many come behind
			break
		}
	}
	sorted, err := sorts.Sort(o, all, unique)
	if err != api.OK {
		w.complain("too many lines")
		return true
	}
	w.putLines(sorted)
	return true
}

// isSorted asks text by text, as there may be very many lines; each text's lines stand behind the last one ahead of them.
func (w *work) isSorted(o api.Order, unique bool) bool {
	var last []string
	for _, s := range w.texts() {
		l := slices.Concat(last, split(s.text))
		if sorts.Check(o, l, unique) >= 0 {
			return false
		}
		last = l[max(len(l)-1, 0):]
	}
	return true
}

func (w *work) order() (api.Order, bool) {
	o := api.Order{Number: w.has('n'), Fold: w.has('f'), Blanks: w.has('b'), Reverse: w.has('r')}
	var isSep, isKey bool
	o.Sep, isSep = w.single('t', 0)
	o.From, o.To, isKey = w.key()
	return o, isSep && isKey && keys.Check(o)
}

// key: the fields that -k tells; 0 and 0, if it is not told.
func (w *work) key() (from, to int, ok bool) {
	s, isTold := opts.Last(w.flags, 'k')
	if !isTold {
		return 0, 0, true
	}
	first, last, both := strings.Cut(s, ",")
	if from, ok = fieldPlace(first); !ok || !both {
		return from, 0, ok
	}
	to, ok = fieldPlace(last)
	return from, to, ok
}

func fieldPlace(s string) (int, bool) {
	n, ok := opts.Number(s)
	return n, ok && n >= 1
}

func (w *work) comm() bool {
	first, _ := w.read(w.operands[0]) // what can't be read has no lines; the other one is gone on with
	second, _ := w.read(w.operands[1])
	a, b := split(first), split(second)
	if sorts.Check(api.Order{}, a, false) >= 0 || sorts.Check(api.Order{}, b, false) >= 0 {
		w.complain("not in order")
		return true
	}
	one, two, both := sorts.Comm(a, b)
	w.putColumns(one, two, both)
	return true
}

// putColumns: columns, each of them in order, as one; each line behind as many bytes 9 as there are columns ahead of its own. Of lines that are the same the one of the first column comes first.
func (w *work) putColumns(columns ...[]string) {
	for {
		next := -1
		for i, l := range columns {
			if len(l) > 0 && (next < 0 || l[0] < columns[next][0]) {
				next = i
			}
		}
		if next < 0 {
			return
		}
		w.put(strings.Repeat("\t", next), columns[next][0], "\n")
		columns[next] = columns[next][1:]
	}
}
