package text_test

import (
	"bytes"
	"fmt"
	"regexp"
	"sort"
	"strings"

	"toolchest/api"
	"toolchest/calls"
	"toolchest/cuts"
	"toolchest/keys"
	"toolchest/lists"
	"toolchest/paths"
	"toolchest/sets"
	"toolchest/views"
)

// slow is a slow reading of the chapter: the words are gone through by hand, what is told is put together by the library wherever it has the thing.
type slow struct {
	tree           api.Tree
	env            api.Env
	name, in       string
	flags          map[byte]int
	args           map[byte]string
	ops            []string
	out, err       string
	status         int
	usage, tooLong bool
}

// slowOptions: of the commands that take any, from the chapter's table.
var slowOptions = map[string]string{"basename": "", "cat": "", "cksum": "", "cmp": "s", "comm": "", "cut": "b:f:d:s", "dirname": "", "fold": "w:s", "head": "n:c:", "nl": "v:w:", "od": "", "paste": "d:", "sort": "nfbruct:k:", "tail": "n:c:", "tr": "cds", "uniq": "cduf:s:", "wc": "lwcL"}

func slowRun(t api.Tree, e api.Env, args []string, in string) api.Result {
	s := &slow{tree: t, env: e, name: args[0], in: in, flags: map[byte]int{}, args: map[byte]string{}}
	which, takes := slowOptions[s.name]
	switch {
	case s.name == "echo":
		return api.Result{Out: strings.Join(args[1:], " ") + "\n"}
	case s.name == "true":
		return api.Result{}
	case s.name == "false":
		return api.Result{Status: 1}
	case !takes || !s.part(which, args[1:]):
		return api.Result{Err: s.name + ": usage\n", Status: 2}
	}
	s.deed()
	switch {
	case s.usage:
		return api.Result{Err: s.name + ": usage\n", Status: 2}
	case len(s.out) > api.MaxText:
		return api.Result{Err: s.name + ": too long\n", Status: 1}
	}
	return api.Result{Out: s.out, Err: s.err, Status: s.status}
}

func (s *slow) part(which string, words []string) bool {
	for len(words) > 0 && len(words[0]) > 1 && words[0][0] == '-' {
		word := words[0][1:]
		words = words[1:]
		if word == "-" {
			break
		}
		for word != "" {
			letter := word[0]
			word = word[1:]
			at := strings.IndexByte(which, letter)
			if at < 0 || letter == ':' {
				return false
			}
			s.flags[letter]++
			if at+1 == len(which) || which[at+1] != ':' {
				continue
			}
			if word == "" {
				if len(words) == 0 {
					return false
				}
				word, words = words[0], words[1:]
			}
			s.args[letter], word = word, ""
		}
	}
	s.ops = words
	return true
}

func (s *slow) deed() {
	deeds := map[string]func(){"basename": s.basename, "cat": s.cat, "cksum": s.cksum, "cmp": s.cmp, "comm": s.comm, "cut": s.cut, "dirname": s.dirname, "fold": s.fold, "head": s.ends, "nl": s.nl, "od": s.od, "paste": s.paste, "sort": s.sort, "tail": s.ends, "tr": s.tr, "uniq": s.uniq, "wc": s.wc}
	deeds[s.name]()
}

var isNumber = regexp.MustCompile(`^[-+]?[0-9]{1,18}$`)

func (s *slow) number(letter byte, usual, least, most int) int {
	if s.flags[letter] == 0 {
		return usual
	}
	n := 0
	if word := s.args[letter]; isNumber.MatchString(word) {
		fmt.Sscanf(word, "%d", &n)
		if least <= n && n <= most {
			return n
		}
	}
	s.usage = true
	return 0
}

func (s *slow) file(path string) (string, bool) {
	if path == "-" {
		return s.in, true
	}
	b, e := calls.Read(s.tree, s.env, path)
	if e == api.OK {
		return string(b), true
	}
	s.err += fmt.Sprintf("%s: %s: %s\n", s.name, path, calls.Word(e))
	s.status = 1
	return "", false
}

// texts: what can be read, and the operands by which.
func (s *slow) texts() (texts, by []string) {
	if len(s.ops) == 0 {
		return []string{s.in}, []string{""}
	}
	for _, o := range s.ops {
		if x, ok := s.file(o); ok {
			texts, by = append(texts, x), append(by, o)
		}
	}
	return texts, by
}

func slowLines(x string) []string {
	if x == "" {
		return nil
	}
	return strings.Split(strings.TrimSuffix(x, "\n"), "\n")
}

func (s *slow) allLines() []string {
	var l []string
	texts, _ := s.texts()
	for _, x := range texts {
		l = append(l, slowLines(x)...)
	}
	return l
}

func (s *slow) basename() {
	s.usage = len(s.ops) != 1 && len(s.ops) != 2
	if s.usage {
		return
	}
	s.out = paths.Base(s.ops[0])
	if len(s.ops) == 2 && strings.HasSuffix(s.out, s.ops[1]) && len(s.out) > len(s.ops[1]) {
		s.out = s.out[:len(s.out)-len(s.ops[1])]
	}
	s.out += "\n"
}

func (s *slow) dirname() {
	if s.usage = len(s.ops) != 1; !s.usage {
		s.out = paths.Dir(s.ops[0]) + "\n"
	}
}

func (s *slow) cat() {
	texts, _ := s.texts()
	s.out = strings.Join(texts, "")
}

func (s *slow) cksum() {
	texts, by := s.texts()
	for i, x := range texts {
		s.out += strings.TrimSuffix(fmt.Sprintf("%d %d %s", views.Sum(x), len(x), by[i]), " ") + "\n"
	}
}

func (s *slow) cmp() {
	if s.usage = len(s.ops) != 2; s.usage {
		return
	}
	a, is := s.file(s.ops[0])
	b, too := s.file(s.ops[1])
	if !is || !too {
		s.status = 2
		return
	}
	if a == b {
		return
	}
	s.status = 1
	if s.flags['s'] > 0 {
		return
	}
	line := 1
	for i := range a {
		if i == len(b) {
			break
		}
		if a[i] != b[i] {
			s.out = fmt.Sprintf("%s %s differ: byte %d, line %d\n", s.ops[0], s.ops[1], i+1, line)
			return
		}
		if a[i] == '\n' {
			line++
		}
	}
	shorter := s.ops[0]
	if len(b) < len(a) {
		shorter = s.ops[1]
	}
	s.err = "cmp: EOF on " + shorter + "\n"
}

// comm counts how often each line is there: as often as both have it it is told as one of both.
func (s *slow) comm() {
	if s.usage = len(s.ops) != 2; s.usage {
		return
	}
	a, _ := s.file(s.ops[0])
	b, _ := s.file(s.ops[1])
	l, m := slowLines(a), slowLines(b)
	if !sort.StringsAreSorted(l) || !sort.StringsAreSorted(m) {
		s.err += "comm: not in order\n"
		s.status = 1
		return
	}
	inA, inB, all := map[string]int{}, map[string]int{}, map[string]bool{}
	for _, x := range l {
		inA[x]++
		all[x] = true
	}
	for _, x := range m {
		inB[x]++
		all[x] = true
	}
	var each []string
	for x := range all {
		each = append(each, x)
	}
	sort.Strings(each)
	for _, x := range each {
		both := min(inA[x], inB[x])
		s.out += strings.Repeat(x+"\n", inA[x]-both) + strings.Repeat("\t"+x+"\n", inB[x]-both) + strings.Repeat("\t\t"+x+"\n", both)
	}
}

func (s *slow) cut() {
	letter := byte('f')
	if s.flags['b'] > 0 {
		letter = 'b'
	}
	l, e := lists.Parse(s.args[letter])
	sep := "\t"
	if s.flags['d'] > 0 {
		sep = s.args['d']
	}
	s.usage = (s.flags['b'] > 0) == (s.flags['f'] > 0) || letter == 'b' && s.flags['d']+s.flags['s'] > 0 || e != api.OK || len(sep) != 1
	if s.usage {
		return
	}
	for _, line := range s.allLines() {
		var parts []string
		between := ""
		if letter == 'b' {
			for i := range len(line) {
				parts = append(parts, line[i:i+1])
			}
		} else if between = sep; strings.Contains(line, sep) {
			parts = strings.Split(line, sep)
		} else if s.flags['s'] > 0 {
			continue
		} else {
			s.out += line + "\n"
			continue
		}
		var left []string
		for i, p := range parts {
			if lists.Has(l, i+1) {
				left = append(left, p)
			}
		}
		s.out += strings.Join(left, between) + "\n"
	}
}

func (s *slow) fold() {
	n := s.number('w', 80, 1, 65536)
	if s.usage {
		return
	}
	for _, line := range s.allLines() {
		l, _ := cuts.Fold(line, n, s.flags['s'] > 0)
		for _, part := range l {
			s.out += part + "\n"
		}
	}
}

func (s *slow) ends() {
	letter := byte('n')
	if s.flags['c'] > 0 {
		letter = 'c'
	}
	n := s.number(letter, 10, 0, 1<<62)
	if s.usage = s.usage || s.flags['n'] > 0 && s.flags['c'] > 0; s.usage {
		return
	}
	texts, by := s.texts()
	for i, x := range texts {
		if len(s.ops) > 1 {
			s.out += fmt.Sprintf("%s==> %s <==\n", strings.Repeat("\n", min(i, 1)), by[i])
		}
		l := strings.SplitAfter(x, "\n")
		if l[len(l)-1] == "" {
			l = l[:len(l)-1]
		}
		if letter == 'c' {
			l = nil
			for j := range len(x) {
				l = append(l, x[j:j+1])
			}
		}
		k := min(n, len(l))
		if s.name == "head" {
			l = l[:k]
		} else {
			l = l[len(l)-k:]
		}
		s.out += strings.Join(l, "")
	}
}

func (s *slow) nl() {
	from, wide := s.number('v', 1, 0, 1<<62), s.number('w', 6, 1, 20)
	if s.usage {
		return
	}
	s.cat()
	l := slowLines(s.out)
	s.out = ""
	for i, line := range l {
		s.out += fmt.Sprintf("%*d\t%s\n", wide, min(from, 1<<31-1)+i, line)
	}
}

func (s *slow) od() {
	s.cat()
	x := s.out
	s.out = ""
	for i := 0; i < len(x); i += 16 {
		s.out += fmt.Sprintf("%07o", i)
		for _, c := range []byte(x[i:min(i+16, len(x))]) {
			s.out += fmt.Sprintf(" %03o", c)
		}
		s.out += "\n"
	}
	s.out += fmt.Sprintf("%07o\n", len(x))
}

func (s *slow) paste() {
	seps := "\t"
	if s.flags['d'] > 0 {
		seps = s.args['d']
	}
	texts, _ := s.texts()
	rows := 0
	for _, x := range texts {
		rows = max(rows, len(slowLines(x)))
	}
	for row := range rows {
		for i, x := range texts {
			if i > 0 && seps != "" {
				at := (i - 1) % len(seps)
				s.out += seps[at : at+1]
			}
			if l := slowLines(x); row < len(l) {
				s.out += l[row]
			}
		}
		s.out += "\n"
	}
}

func (s *slow) sort() {
	o := api.Order{Number: s.flags['n'] > 0, Fold: s.flags['f'] > 0, Blanks: s.flags['b'] > 0, Reverse: s.flags['r'] > 0}
	if s.flags['t'] > 0 {
		if s.usage = len(s.args['t']) != 1; s.usage {
			return
		}
		o.Sep = s.args['t'][0]
	}
	if s.flags['k'] > 0 {
		k := regexp.MustCompile(`^\+?(\d{1,18})(?:,\+?(\d{1,18}))?$`).FindStringSubmatch(s.args['k'])
		if s.usage = k == nil; s.usage {
			return
		}
		fmt.Sscanf(k[1], "%d", &o.From)
		fmt.Sscanf(k[2], "%d", &o.To)
		s.usage = o.From == 0 || k[2] != "" && o.To == 0
	}
	if s.usage = s.usage || !keys.Check(o); s.usage {
		return
	}
	l := s.allLines()
	unique := s.flags['u'] > 0
	behind := func(a, b string) bool {
		n := keys.Compare(o, a, b)
		if n == 0 && !unique {
			if n = strings.Compare(a, b); o.Reverse {
				n = -n
			}
		}
		return n > 0 || n == 0 && unique
	}
	if s.flags['c'] > 0 {
		for i := 1; i < len(l); i++ {
			if behind(l[i-1], l[i]) {
				s.err += "sort: not in order\n"
				s.status = 1
				return
			}
		}
		return
	}
	if len(l) > api.MaxLines {
		s.err += "sort: too many lines\n"
		s.status = 1
		return
	}
	sort.SliceStable(l, func(i, j int) bool { return behind(l[j], l[i]) && !(unique && keys.Compare(o, l[i], l[j]) == 0) })
	for i, line := range l {
		if i == 0 || !unique || keys.Compare(o, l[i-1], line) != 0 {
			s.out += line + "\n"
		}
	}
}

func (s *slow) tr() {
	d, q, n := s.flags['d'] > 0, s.flags['s'] > 0, len(s.ops)
	var l [][]byte
	for _, o := range s.ops {
		set, e := sets.Parse(o)
		s.usage = s.usage || e != api.OK
		l = append(l, set)
	}
	fits := map[string]bool{"false false 2": true, "true false 1": true, "false true 1": true, "false true 2": true, "true true 2": true}
	if s.usage = s.usage || !fits[fmt.Sprint(d, q, n)]; s.usage {
		return
	}
	if s.flags['c'] > 0 {
		var rest []byte
		for c := range 256 {
			if !bytes.Contains(l[0], []byte{byte(c)}) {
				rest = append(rest, byte(c))
			}
		}
		l[0] = rest
	}
	x := []byte(s.in)
	if !d && n == 2 {
		if s.usage = len(l[1]) == 0 && len(l[0]) > 0; s.usage {
			return
		}
		for i, c := range x {
			if at := bytes.IndexByte(l[0], c); at >= 0 {
				x[i] = l[1][min(at, len(l[1])-1)]
			}
		}
	}
	var out []byte
	for _, c := range x {
		if d && bytes.IndexByte(l[0], c) >= 0 || q && len(out) > 0 && out[len(out)-1] == c && bytes.IndexByte(l[n-1], c) >= 0 {
			continue
		}
		out = append(out, c)
	}
	s.out = string(out)
}

func (s *slow) uniq() {
	f, b := s.number('f', 0, 0, 1<<62), s.number('s', 0, 0, 1<<62)
	if s.usage = s.usage || len(s.ops) > 1; s.usage {
		return
	}
	field := regexp.MustCompile(`^(?s:[ \t]*[^ \t]+)`)
	left := func(line string) string {
		for range f {
			at := field.FindStringIndex(line)
			if at == nil {
				return ""
			}
			line = line[at[1]:]
		}
		return line[min(b, len(line)):]
	}
	l := s.allLines()
	for i := 0; i < len(l); {
		n := 1
		for i+n < len(l) && left(l[i+n]) == left(l[i]) {
			n++
		}
		if !(n == 1 && s.flags['d'] > 0) && !(n > 1 && s.flags['u'] > 0) {
			if s.flags['c'] > 0 {
				s.out += fmt.Sprintf("%7d ", n)
			}
			s.out += l[i] + "\n"
		}
		i += n
	}
}

func (s *slow) wc() {
	texts, by := s.texts()
	if len(s.flags) == 0 {
		s.flags = map[byte]int{'l': 1, 'w': 1, 'c': 1}
	}
	row := func(n map[byte]int, label string) {
		var l []string
		for _, letter := range []byte("lwcL") {
			if s.flags[letter] > 0 {
				l = append(l, fmt.Sprintf("%7d", n[letter]))
			}
		}
		s.out += strings.Join(l, " ") + label + "\n"
	}
	total := map[byte]int{}
	word := regexp.MustCompile("[^\t-\r ]+")
	for i, x := range texts {
		n := map[byte]int{'l': strings.Count(x, "\n"), 'w': len(word.FindAllStringIndex(x, -1)), 'c': len(x)}
		for _, line := range slowLines(x) {
			n['L'] = max(n['L'], len(line))
		}
		for letter := range n {
			total[letter] += n[letter]
		}
		total['L'] = max(total['L']-n['L'], n['L'])
		label := " " + by[i]
		if len(s.ops) == 0 {
			label = ""
		}
		row(n, label)
	}
	if len(s.ops) > 1 {
		row(total, " total")
	}
}
