package text

import (
	"strconv"

	"toolchest/api"
	"toolchest/lines"
	"toolchest/sets"
	"toolchest/views"
)

// Commands that treat texts as wholes.

func (w *work) cat() bool {
	if s, ok := w.together(); ok {
		w.put(s)
	}
	return true
}

func (w *work) od() bool {
	if s, ok := w.together(); ok {
		w.put(views.Dump(s))
	}
	return true
}

func (w *work) cksum() bool {
	for _, s := range w.texts() {
		sum := strconv.FormatUint(uint64(views.Sum(s.text)), 10)
		w.put(sum, " ", strconv.Itoa(len(s.text)), s.label(), "\n")
	}
	return true
}

func (w *work) cmp() bool {
	a, b := w.operands[0], w.operands[1]
	first, isFirst := w.read(a)
	second, isSecond := w.read(b)
	if !isFirst || !isSecond {
		w.status = 2
		return true
	}
	at, line, ends := views.Cmp(first, second)
	switch {
	case at == 0 && ends == 0:
	case w.has('s'):
		w.status = 1
	case ends > 0:
		w.complain("EOF on " + w.operands[ends-1])
	default:
		w.status = 1
		w.put(a, " ", b, " differ: byte ", strconv.Itoa(at), ", line ", strconv.Itoa(line), "\n")
	}
	return true
}

// head and tail tell of each text one of its ends.
func (w *work) head() bool { return w.ends(lines.Head, lines.HeadBytes) }

func (w *work) tail() bool { return w.ends(lines.Tail, lines.TailBytes) }

func (w *work) ends(byLines, byBytes func(s string, n int) string) bool {
	part, letter := byLines, byte('n')
	if w.has('c') {
		part, letter = byBytes, 'c'
	}
	n, ok := w.number(letter, 10)
	if !ok || w.has('n') && w.has('c') {
		return false
	}
	gap := ""
	for _, s := range w.texts() {
		if len(w.operands) > 1 {
			w.put(gap, "==> ", s.operand, " <==\n")
			gap = "\n"
		}
		w.put(part(s.text, n))
	}
	return true
}

// counts: what lines.Count tells, in the order of the letters of wc's options.
type counts [len(countLetters)]int

const (
	countLetters = "lwcL"
	usualCounts  = "lwc"
	longest      = len(countLetters) - 1 // the place of what is not added up
)

func (w *work) wc() bool {
	var total counts
	for _, s := range w.texts() {
		var c counts
		c[0], c[1], c[2], c[3] = lines.Count(s.text)
		w.putCounts(c, s.label())
		total = total.with(c)
	}
	if len(w.operands) > 1 {
		w.putCounts(total, " total")
	}
	return true
}

func (c counts) with(d counts) counts {
	for i := range longest {
		c[i] += d[i]
	}
	c[longest] = max(c[longest], d[longest])
	return c
}

func (w *work) putCounts(c counts, label string) {
	gap := ""
	for i, n := range c {
		if w.isCounted(i) {
			w.put(gap, wide(n, inCount))
			gap = " "
		}
	}
	w.put(label, "\n")
}

// isCounted: is this one of the numbers that wc tells?
func (w *work) isCounted(i int) bool {
	if len(w.flags) == 0 {
		return i < len(usualCounts)
	}
	return w.has(countLetters[i])
}

// tr: what is dropped goes by the first set; what is squeezed by the last one, be that the first or the second.
func (w *work) tr() bool {
	drop, squeeze, two := w.has('d'), w.has('s'), len(w.operands) == 2
	if drop && squeeze != two || !drop && !squeeze && !two {
		return false
	}
	l, ok := w.sets()
	if !ok {
		return false
	}
	first, last := l[0], l[len(l)-1]
	s := w.in
	switch {
	case drop:
		s = sets.Drop(s, first)
	case two:
		var err api.Errno
		if s, err = sets.Swap(s, first, last); err != api.OK {
			return false
		}
	}
	if squeeze {
		s = sets.Squeeze(s, last)
	}
	w.put(s)
	return true
}

// sets: those that the operands tell, the first one turned about by -c.
func (w *work) sets() ([][]byte, bool) {
	var l [][]byte
	for _, operand := range w.operands {
		set, err := sets.Parse(operand)
		if err != api.OK {
			return nil, false
		}
		l = append(l, set)
	}
	if w.has('c') {
		l[0] = sets.Rest(l[0])
	}
	return l, true
}
