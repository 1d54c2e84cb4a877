package text

import (
	"slices"

	"toolchest/api"
	"toolchest/cuts"
	"toolchest/lists"
	"toolchest/opts"
	"toolchest/sorts"
	"toolchest/views"
)

// Commands that treat texts line by line.

func (w *work) cut() bool {
	part, ok := w.cutter()
	if !ok {
		return false
	}
	for line := range w.lines() {
		if s, ok := part(line); ok {
			w.put(s, "\n")
		}
	}
	return true
}

// cutter: what cut leaves of a line, or that it leaves nothing.
func (w *work) cutter() (func(line string) (string, bool), bool) {
	which, byBytes := opts.Last(w.flags, 'b')
	if byBytes == w.has('f') || byBytes && (w.has('d') || w.has('s')) {
		return nil, false
	}
	if !byBytes {
		which, _ = opts.Last(w.flags, 'f')
	}
	l, err := lists.Parse(which)
	sep, ok := w.single('d', '\t')
	if err != api.OK || !ok {
		return nil, false
	}
	if byBytes {
		return func(line string) (string, bool) { return cuts.Bytes(line, l), true }, true
	}
	bare := w.has('s')
	return func(line string) (string, bool) { return cuts.Fields(line, l, sep, bare) }, true
}

func (w *work) fold() bool {
	n, ok := w.number('w', 80)
	if _, err := cuts.Fold("", n, false); !ok || err != api.OK { // asked ahead of the lines, since there may be none
		return false
	}
	blanks := w.has('s')
	for line := range w.lines() {
		parts, _ := cuts.Fold(line, n, blanks)
		w.putLines(parts)
	}
	return true
}

// widest: as wide as nl tells a number.
const widest = 20

func (w *work) nl() bool {
	from, isFrom := w.number('v', 1)
	place, isPlace := w.number('w', 6)
	if !isFrom || !isPlace || place < 1 || place > widest {
		return false
	}
	if s, ok := w.together(); ok {
		w.putLines(cuts.Number(split(s), from, place))
	}
	return true
}

func (w *work) paste() bool {
	seps, isTold := opts.Last(w.flags, 'd')
	if !isTold {
		seps = "\t"
	}
	columns := w.columns()
	if pastedSize(columns, seps) > api.MaxText { // a few short texts may be very many bytes side by side
		w.long = true
		return true
	}
	w.putLines(views.Paste(columns, seps))
	return true
}

// columns: the lines of each text. A text that is told again and again is split once, as all of its lines are kept.
func (w *work) columns() [][]string {
	known := map[string][]string{}
	var columns [][]string
	for _, s := range w.texts() {
		l, ok := known[s.text]
		if !ok {
			l = split(s.text)
			known[s.text] = l
		}
		columns = append(columns, l)
	}
	return columns
}

// pastedSize: how many bytes columns have side by side, with the ends of the lines.
func pastedSize(columns [][]string, seps string) int {
	gaps := 0
	if seps != "" {
		gaps = len(columns) - 1
	}
	size, rows := 0, 0
	for _, l := range columns {
		rows = max(rows, len(l))
		for _, line := range l {
			size += len(line)
		}
	}
	return size + rows*(gaps+1)
}

func (w *work) uniq() bool {
	fields, isFields := w.number('f', 0)
	bytes, isBytes := w.number('s', 0)
	if !isFields || !isBytes {
		return false
	}
	repeated, once, counted := w.has('d'), w.has('u'), w.has('c')
	for _, r := range sorts.Runs(slices.Collect(w.lines()), fields, bytes) {
		if repeated && r.N == 1 || once && r.N > 1 {
			continue
		}
		if counted {
			w.put(wide(r.N, inCount), " ")
		}
		w.put(r.Line, "\n")
	}
	return true
}
