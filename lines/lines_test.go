package lines_test

import (
	"math"
	"slices"
	"strings"
	"testing"

	"toolchest/lines"
)

func list(l ...string) []string { return l }

// shortTexts: all texts of at most 6 bytes that are made of these ones.
func shortTexts(bytes string) []string {
	out := []string{""}
	for from, n := 0, 0; n < 6; n++ {
		to := len(out)
		for _, s := range out[from:to] {
			for i := range len(bytes) {
				out = append(out, s+bytes[i:i+1])
			}
		}
		from = to
	}
	return out
}

// slowLines: the lines with their ends, by the library.
func slowLines(s string) []string {
	l := strings.SplitAfter(s, "\n")
	if l[len(l)-1] == "" {
		l = l[:len(l)-1]
	}
	return l
}

func wantSplit(t *testing.T, s string, want []string, ends bool) {
	t.Helper()
	if l, e := lines.Split(s); !slices.Equal(l, want) || e != ends {
		t.Errorf("Split(%q): %q %v, want %q %v", s, l, e, want, ends)
	}
}

func wantJoin(t *testing.T, l []string, want string) {
	t.Helper()
	if s := lines.Join(l); s != want {
		t.Errorf("Join(%q): %q, want %q", l, s, want)
	}
}

func wantFields(t *testing.T, s string, sep byte, want []string) {
	t.Helper()
	if l := lines.Fields(s, sep); !slices.Equal(l, want) {
		t.Errorf("Fields(%q, %d): %q, want %q", s, sep, l, want)
	}
}

func wantCount(t *testing.T, s string, want [4]int) {
	t.Helper()
	a, b, c, d := lines.Count(s)
	if got := [4]int{a, b, c, d}; got != want {
		t.Errorf("Count(%q): %d, want %d", s, got, want)
	}
}

// cut: what a call of P2.3 leaves of a text.
type cut struct {
	name string
	call func(s string, n int) string
}

var (
	head      = cut{"Head", lines.Head}
	tail      = cut{"Tail", lines.Tail}
	headBytes = cut{"HeadBytes", lines.HeadBytes}
	tailBytes = cut{"TailBytes", lines.TailBytes}
)

func wantCut(t *testing.T, c cut, s string, n int, want string) {
	t.Helper()
	if got := c.call(s, n); got != want {
		t.Errorf("%s(%q, %d): %q, want %q", c.name, s, n, got, want)
	}
}

// P2.1: the chapter's examples.
func TestSplitJoinExamples(t *testing.T) {
	wantSplit(t, "a\n\nb", list("a", "", "b"), false)
	wantSplit(t, "a\n", list("a"), true)
	wantSplit(t, "", nil, false)
	wantSplit(t, "\n", list(""), true)
	wantJoin(t, list("a", "", "b"), "a\n\nb\n")
}

// P2.1: a byte 10 alone ends a line; what stands behind the last one is a line, if it is not empty.
func TestSplit(t *testing.T) {
	wantSplit(t, "a", list("a"), false)
	wantSplit(t, "a\nb", list("a", "b"), false)
	wantSplit(t, "a\nb\n", list("a", "b"), true)
	wantSplit(t, "\n\n", list("", ""), true)
	wantSplit(t, "\na", list("", "a"), false)
	wantSplit(t, "\n\n\na\n\n", list("", "", "", "a", ""), true)
	wantSplit(t, "a\r\nb\vc\fd\x00e\x85f\u2028g", list("a\r", "b\vc\fd\x00e\x85f\u2028g"), false)
	wantSplit(t, " \t\n ", list(" \t", " "), false)
	for _, s := range shortTexts("a\n ") {
		want := slowLines(s)
		for i := range want {
			want[i] = strings.TrimSuffix(want[i], "\n")
		}
		wantSplit(t, s, want, strings.HasSuffix(s, "\n"))
	}
}

// P2.1: each text has its byte 10, whatever it holds.
func TestJoin(t *testing.T) {
	wantJoin(t, nil, "")
	wantJoin(t, list(), "")
	wantJoin(t, list(""), "\n")
	wantJoin(t, list("", ""), "\n\n")
	wantJoin(t, list("a"), "a\n")
	wantJoin(t, list("a\n", "b\nc"), "a\n\nb\nc\n")
	wantJoin(t, list("\x00\xff", "é"), "\x00\xff\né\n")
}

// P2.2: the chapter's examples.
func TestFieldsExamples(t *testing.T) {
	wantFields(t, " a  b", 0, list("a", "b"))
	wantFields(t, "a::b:", ':', list("a", "", "b", ""))
	wantFields(t, "", ':', list(""))
	wantFields(t, "", 0, nil)
}

// P2.2: with sep 0 blanks stand between, 32 and 9 and no other byte.
func TestFieldsByBlanks(t *testing.T) {
	wantFields(t, "a", 0, list("a"))
	wantFields(t, " ", 0, nil)
	wantFields(t, " \t\t ", 0, nil)
	wantFields(t, "a\tb", 0, list("a", "b"))
	wantFields(t, "\ta \t b ", 0, list("a", "b"))
	wantFields(t, "ab cd  ef", 0, list("ab", "cd", "ef"))
	for c := range 256 {
		s := "a" + string([]byte{byte(c)}) + "b"
		if c == ' ' || c == '\t' {
			wantFields(t, s, 0, list("a", "b"))
		} else {
			wantFields(t, s, 0, list(s))
		}
	}
	for _, s := range shortTexts("a \t\n") {
		wantFields(t, s, 0, strings.FieldsFunc(s, func(r rune) bool { return r == ' ' || r == '\t' }))
	}
}

// P2.2: with another byte each field is told, empty ones too.
func TestFieldsByByte(t *testing.T) {
	wantFields(t, "abc", ':', list("abc"))
	wantFields(t, ":", ':', list("", ""))
	wantFields(t, ":::", ':', list("", "", "", ""))
	wantFields(t, ":a", ':', list("", "a"))
	wantFields(t, "a:", ':', list("a", ""))
	wantFields(t, " a : b\n", ':', list(" a ", " b\n"))
	wantFields(t, " a  b", ' ', list("", "a", "", "b"))
	wantFields(t, "a\t\tb", '\t', list("a", "", "b"))
	wantFields(t, "a\nb\n", '\n', list("a", "b", ""))
	for c := 1; c < 256; c++ {
		sep := string([]byte{byte(c)})
		wantFields(t, sep+"\x00"+sep+sep, byte(c), list("", "\x00", "", ""))
		wantFields(t, "\x00", byte(c), list("\x00"))
		wantFields(t, "", byte(c), list(""))
	}
	for _, s := range shortTexts("a: \n") {
		wantFields(t, s, ':', strings.Split(s, ":"))
		wantFields(t, s, '\n', strings.Split(s, "\n"))
	}
}

// P2.3: the chapter's examples.
func TestCutExamples(t *testing.T) {
	wantCut(t, head, "a\nb\nc", 2, "a\nb\n")
	wantCut(t, tail, "a\nb\nc", 2, "b\nc")
	wantCut(t, tail, "a\nb\n", 1, "b\n")
	wantCut(t, head, "a", 9, "a")
	wantCut(t, head, "a", -1, "")
	wantCut(t, headBytes, "abc", 2, "ab")
	wantCut(t, tailBytes, "abc", 2, "bc")
	wantCut(t, tailBytes, "abc", 9, "abc")
}

// P2.3: lines keep their ends, and one without an end gets none.
func TestHeadTailLines(t *testing.T) {
	wantCut(t, head, "a\nb", 1, "a\n")
	wantCut(t, head, "a\nb", 2, "a\nb")
	wantCut(t, head, "a\nb\n", 2, "a\nb\n")
	wantCut(t, head, "\n\na", 1, "\n")
	wantCut(t, head, "\n\na", 2, "\n\n")
	wantCut(t, tail, "a\nb", 1, "b")
	wantCut(t, tail, "a\n\n", 1, "\n")
	wantCut(t, tail, "a\n\n", 2, "a\n\n")
	wantCut(t, tail, "abc\nde\nf\n", 2, "de\nf\n")
}

// P2.3, R1: an n below 0 is as 0; with one above what there is the text is whole; at the ends of what an int holds too.
func TestCutEdges(t *testing.T) {
	for _, s := range list("", "\n", "a", "a\n", "a\nb", "a\n\nb\n", "\x00\xff") {
		for _, c := range []cut{head, tail, headBytes, tailBytes} {
			for _, n := range []int{0, -1, -2, -1000, math.MinInt32, math.MinInt + 1, math.MinInt} {
				wantCut(t, c, s, n, "")
			}
			for _, n := range []int{len(s), len(s) + 1, 1000, math.MaxInt32, math.MaxInt - 1, math.MaxInt} {
				wantCut(t, c, s, n, s)
			}
		}
	}
}

// P2.3: short texts, each n, against what the library says.
func TestCutShortTexts(t *testing.T) {
	for _, s := range shortTexts("a\n ") {
		all := slowLines(s)
		for n := range len(all) + 1 {
			wantCut(t, head, s, n, strings.Join(all[:n], ""))
			wantCut(t, tail, s, n, strings.Join(all[len(all)-n:], ""))
		}
		for n := range len(s) + 1 {
			wantCut(t, headBytes, s, n, s[:n])
			wantCut(t, tailBytes, s, n, s[len(s)-n:])
		}
	}
}

// P2.4: the chapter's examples.
func TestCountExamples(t *testing.T) {
	wantCount(t, "ab c\nd", [4]int{1, 3, 6, 4})
	wantCount(t, "", [4]int{0, 0, 0, 0})
}

// P2.4: bytes 10 are told, not lines; the longest line may have no end; an end is no byte of its line.
func TestCount(t *testing.T) {
	wantCount(t, "a", [4]int{0, 1, 1, 1})
	wantCount(t, "\n", [4]int{1, 0, 1, 0})
	wantCount(t, "\n\n\n", [4]int{3, 0, 3, 0})
	wantCount(t, "a\nbcd", [4]int{1, 2, 5, 3})
	wantCount(t, "abc\nd\n", [4]int{2, 2, 6, 3})
	wantCount(t, "a\nbcd\nef\n", [4]int{3, 3, 9, 3})
	wantCount(t, " \t ", [4]int{0, 0, 3, 3})
	wantCount(t, " ab  cd ", [4]int{0, 2, 8, 8})
	wantCount(t, "é\n", [4]int{1, 1, 3, 2})
}

// P2.4: words stand between bytes 9 to 13 and 32, and no other byte ends one.
func TestCountWords(t *testing.T) {
	for c := range 256 {
		between := string([]byte{byte(c)})
		words, ends, longest := 1, 0, 5
		if 9 <= c && c <= 13 || c == 32 {
			words = 2
		}
		if c == 10 {
			ends, longest = 1, 2
		}
		wantCount(t, "ab"+between+"cd", [4]int{ends, words, 5, longest})
	}
	wantCount(t, "\t\n\v\f\r a\r\f\v\n\tb \t\n\v\f\r", [4]int{3, 2, 19, 8})
	isSpace := func(r rune) bool { return strings.ContainsRune("\t\n\v\f\r ", r) }
	for _, s := range shortTexts("a\n\v ") {
		longest := 0
		for _, line := range slowLines(s) {
			longest = max(longest, len(strings.TrimSuffix(line, "\n")))
		}
		wantCount(t, s, [4]int{strings.Count(s, "\n"), len(strings.FieldsFunc(s, isSpace)), len(s), longest})
	}
}

// P2.5: Join of the lines of a text that ends with a byte 10 is the text.
func TestJoinOfSplit(t *testing.T) {
	for _, s := range append(shortTexts("a\n\r"), "ab\n\x00\xff\n\n", strings.Repeat("ab\n", 1000)) {
		l, ends := lines.Split(s)
		want := s
		if s != "" && !ends {
			want += "\n"
		}
		wantJoin(t, l, want)
	}
}

// P2.5: the first n lines, and the last ones of all that are left, are the text.
func TestHeadAndTail(t *testing.T) {
	for _, s := range append(shortTexts("a\n\r"), "ab\n\x00\xff\n\ncd") {
		l, _ := lines.Split(s)
		for n := range len(l) + 1 {
			if got := lines.Head(s, n) + lines.Tail(s, len(l)-n); got != s {
				t.Errorf("the first %d lines of %q and the last %d: %q", n, s, len(l)-n, got)
			}
		}
		for n := range len(s) + 1 {
			if got := lines.HeadBytes(s, n) + lines.TailBytes(s, len(s)-n); got != s {
				t.Errorf("the first %d bytes of %q and the last %d: %q", n, s, len(s)-n, got)
			}
		}
	}
}

// R1: long texts end soon.
func TestLongTexts(t *testing.T) {
	const n = 1 << 19
	s := strings.Repeat("a\n", n)
	l, ends := lines.Split(s)
	if len(l) != n || !ends || lines.Join(l) != s {
		t.Errorf("Split of a long text: %d lines, %v", len(l), ends)
	}
	wantFieldCount := func(sep byte, want int) {
		if got := len(lines.Fields(s, sep)); got != want {
			t.Errorf("Fields of a long text by %d: %d, want %d", sep, got, want)
		}
	}
	wantFieldCount(0, 1)
	wantFieldCount('a', n+1)
	if got := lines.Head(s, n-1) + lines.Tail(s, 1); got != s {
		t.Errorf("Head and Tail of a long text: %d bytes", len(got))
	}
	if a, b, c, d := lines.Count(s); a != n || b != n || c != 2*n || d != 1 {
		t.Errorf("Count of a long text: %d %d %d %d", a, b, c, d)
	}
}

// spoil writes into a list and into its spare room.
func spoil(l []string) {
	l = l[:cap(l)]
	for i := range l {
		l[i] = "spoilt"
	}
}

// R4: an answer is new memory, its spare room too.
func TestAnswersAreNew(t *testing.T) {
	split := func(s string) []string {
		l, _ := lines.Split(s)
		return l
	}
	byBlanks := func(s string) []string { return lines.Fields(s, 0) }
	byColon := func(s string) []string { return lines.Fields(s, ':') }
	for _, c := range []struct {
		name string
		call func(string) []string
		s    string
		want []string
	}{
		{"Split", split, "a\n\nb\nc\nd", list("a", "", "b", "c", "d")},
		{"Split of none", split, "", nil},
		{"Fields by blanks", byBlanks, "a b c d e", list("a", "b", "c", "d", "e")},
		{"Fields by blanks, none", byBlanks, " ", nil},
		{"Fields by a byte", byColon, "a:b:c:d:", list("a", "b", "c", "d", "")},
		{"Fields by a byte, one", byColon, "", list("")},
	} {
		first, second := c.call(c.s), c.call(c.s)
		spoil(first)
		if third := c.call(c.s); !slices.Equal(second, c.want) || !slices.Equal(third, c.want) {
			t.Errorf("%s: %q and %q behind a change of another answer, want %q", c.name, second, third, c.want)
		}
	}
}

// R4: a list that is handed in stays as it is, its spare room too.
func TestJoinLeavesItsList(t *testing.T) {
	all := list("a", "b\n", "", "spare", "room")
	l := all[:3]
	wantJoin(t, l, "a\nb\n\n\n")
	if want := list("a", "b\n", "", "spare", "room"); !slices.Equal(all, want) {
		t.Errorf("Join changed its list: %q", all)
	}
	s := lines.Join(l)
	spoil(all)
	if s != "a\nb\n\n\n" {
		t.Errorf("Join's answer hangs on its list: %q", s)
	}
}
