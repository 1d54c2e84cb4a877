package cuts_test

import (
	"fmt"
	"math"
	"math/rand"
	"slices"
	"strings"
	"testing"

	"toolchest/api"
	"toolchest/cuts"
)

const (
	maxFold = 65536
	maxStop = 100
	maxFrom = math.MaxInt32
	maxWide = 32
)

func list(l ...string) []string { return l }

// ranges: two numbers each.
func ranges(l ...int) []api.Range {
	var out []api.Range
	for i := 0; i < len(l); i += 2 {
		out = append(out, api.Range{From: l[i], To: l[i+1]})
	}
	return out
}

func spaces(n int) string { return strings.Repeat(" ", n) }

// one: the text of one byte.
func one(c int) string { return string([]byte{byte(c)}) }

// shortTexts: all texts of at most so many bytes that are made of these ones.
func shortTexts(bytes string, most int) []string {
	out := []string{""}
	for from, n := 0, 0; n < most; n++ {
		to := len(out)
		for _, s := range out[from:to] {
			for i := range len(bytes) {
				out = append(out, s+bytes[i:i+1])
			}
		}
		from = to
	}
	return out
}

// shortLists: lists of at most two ranges, with numbers around the places of short texts, that may be and that may not.
func shortLists() [][]api.Range {
	ends := []int{math.MinInt, -1, 0, 1, 2, 3, 5, math.MaxInt}
	out := [][]api.Range{nil, {}}
	for _, a := range ends {
		for _, b := range ends {
			out = append(out, ranges(a, b))
		}
	}
	for _, l := range slices.Clone(out[2:]) {
		out = append(out, append(ranges(2, 2), l...), append(slices.Clone(l), ranges(4, 0)...))
	}
	return out
}

// slowHas says the words of P3.2 once more, so that a fault in lists is not believed here.
func slowHas(l []api.Range, place int) bool {
	return slices.ContainsFunc(l, func(r api.Range) bool {
		return !(place < r.From) && !(r.To != 0 && place > r.To)
	})
}

func slowBytes(s string, l []api.Range) string {
	out := ""
	for i := range len(s) {
		if slowHas(l, i+1) {
			out += s[i : i+1]
		}
	}
	return out
}

func slowFields(s string, l []api.Range, sep byte, bare bool) (string, bool) {
	between := one(int(sep))
	all := strings.Split(s, between)
	if len(all) == 1 {
		if bare {
			return "", false
		}
		return s, true
	}
	var some []string
	for i, field := range all {
		if slowHas(l, i+1) {
			some = append(some, field)
		}
	}
	return strings.Join(some, between), true
}

func slowFold(s string, n int, blanks bool) []string {
	var parts []string
	for len(s) > n {
		size := n
		for i := n; blanks && i > 0; i-- {
			if s[i-1] == 32 || s[i-1] == 9 {
				size = i
				break
			}
		}
		parts = append(parts, s[:size])
		s = s[size:]
	}
	return append(parts, s)
}

func slowExpand(s string, n int) string {
	out := ""
	for _, line := range strings.SplitAfter(s, "\n") {
		told := ""
		for i := range len(line) {
			if line[i] != 9 {
				told += line[i : i+1]
				continue
			}
			told += " "
			for len(told)%n != 0 {
				told += " "
			}
		}
		out += told
	}
	return out
}

func wantBytes(t *testing.T, s string, l []api.Range, want string) {
	t.Helper()
	if got := cuts.Bytes(s, l); got != want {
		t.Errorf("Bytes(%.50q, %v): %.80q, want %.80q", s, l, got, want)
	}
}

func wantFields(t *testing.T, s string, l []api.Range, sep byte, bare bool, want string, ok bool) {
	t.Helper()
	if got, is := cuts.Fields(s, l, sep, bare); got != want || is != ok {
		t.Errorf("Fields(%.50q, %v, %d, %v): %.80q %v, want %.80q %v", s, l, sep, bare, got, is, want, ok)
	}
}

// wantBoth: a text with the byte, whose fields do not hang on bare.
func wantBoth(t *testing.T, s string, l []api.Range, sep byte, want string) {
	t.Helper()
	wantFields(t, s, l, sep, false, want, true)
	wantFields(t, s, l, sep, true, want, true)
}

func wantFold(t *testing.T, s string, n int, blanks bool, want ...string) {
	t.Helper()
	if got, e := cuts.Fold(s, n, blanks); e != api.OK || !slices.Equal(got, want) {
		t.Errorf("Fold(%.50q, %d, %v): %d parts %.100q %d, want %d %.100q", s, n, blanks, len(got), got, e, len(want), want)
	}
}

func wantFoldError(t *testing.T, s string, n int, blanks bool) {
	t.Helper()
	if got, e := cuts.Fold(s, n, blanks); e != api.ErrArg || len(got) != 0 {
		t.Errorf("Fold(%.50q, %d, %v): %.100q %d, want ErrArg and nothing else", s, n, blanks, got, e)
	}
}

func wantExpand(t *testing.T, s string, n int, want string) {
	t.Helper()
	if got, e := cuts.Expand(s, n); e != api.OK || got != want {
		t.Errorf("Expand(%.50q, %d): %d bytes %.80q %d, want %d %.80q", s, n, len(got), got, e, len(want), want)
	}
}

func wantExpandError(t *testing.T, s string, n int, want api.Errno) {
	t.Helper()
	if got, e := cuts.Expand(s, n); e != want || got != "" {
		t.Errorf("Expand(%.50q, %d): %d bytes %d, want %d and nothing else", s, n, len(got), e, want)
	}
}

func wantNumber(t *testing.T, l []string, from, wide int, want ...string) {
	t.Helper()
	if got := cuts.Number(l, from, wide); !slices.Equal(got, want) {
		t.Errorf("Number(%.50q, %d, %d): %.100q, want %.100q", l, from, wide, got, want)
	}
}

// P7.1: the chapter's examples.
func TestBytesExamples(t *testing.T) {
	wantBytes(t, "abcdef", ranges(2, 3, 5, 0), "bcef")
	wantBytes(t, "abc", ranges(3, 3, 1, 2), "abc")
	wantBytes(t, "abc", nil, "")
}

// P7.1: the empty text, no list, ranges one over another, in any order, behind the end, without an end.
func TestBytesEdges(t *testing.T) {
	for _, l := range shortLists() {
		wantBytes(t, "", l, "")
	}
	wantBytes(t, "abc", []api.Range{}, "")
	wantBytes(t, "abc", ranges(1, 1), "a")
	wantBytes(t, "abc", ranges(3, 3), "c")
	wantBytes(t, "abcdef", ranges(2, 4, 3, 5), "bcde")
	wantBytes(t, "abcdef", ranges(2, 2, 2, 2), "b")
	wantBytes(t, "abcdef", ranges(1, 6, 2, 3), "abcdef")
	wantBytes(t, "abcdef", ranges(5, 5, 3, 3, 1, 1), "ace")
	wantBytes(t, "abcdef", ranges(5, 0, 1, 2), "abef")
	wantBytes(t, "abc", ranges(4, 4), "")
	wantBytes(t, "abc", ranges(4, 9, 7, 0), "")
	wantBytes(t, "abc", ranges(3, 9), "c")
	wantBytes(t, "abc", ranges(3, 0), "c")
	wantBytes(t, "abc", ranges(4, 0), "")
}

// P7.1: ranges that may not be told hold what lists.Has says of them.
func TestBytesWrongRanges(t *testing.T) {
	wantBytes(t, "abc", ranges(0, 0), "abc")
	wantBytes(t, "abc", ranges(0, 2), "ab")
	wantBytes(t, "abc", ranges(-5, 1), "a")
	wantBytes(t, "abc", ranges(math.MinInt, 0), "abc")
	wantBytes(t, "abc", ranges(3, 2), "")
	wantBytes(t, "abc", ranges(1, -1), "")
	wantBytes(t, "abc", ranges(math.MinInt, math.MinInt), "")
	wantBytes(t, "abc", ranges(math.MaxInt, 0), "")
	wantBytes(t, "abc", ranges(2, math.MaxInt), "bc")
	wantBytes(t, "abc", ranges(3, 1, 2, 2), "b")
}

// P7.1: bytes are told as they are, each of them, and not runes.
func TestBytesEachByte(t *testing.T) {
	all := ""
	for c := range 256 {
		all += one(c)
		wantBytes(t, "a"+one(c)+"b", ranges(2, 2), one(c))
		wantBytes(t, "a"+one(c)+"b", ranges(3, 3, 1, 1), "ab")
	}
	for i := range 256 {
		wantBytes(t, all, ranges(i+1, i+1), one(i))
	}
	wantBytes(t, "éa", ranges(2, 3), "\xa9a")
	wantBytes(t, "a\nb\n", ranges(2, 0), "\nb\n")
}

// P7.1, P7.2: all short texts, with lists that may be and that may not.
func TestChosenShort(t *testing.T) {
	for _, l := range shortLists() {
		for _, s := range shortTexts("a:\x00", 5) {
			wantBytes(t, s, l, slowBytes(s, l))
			for _, sep := range []byte{':', 0, 'a', ' '} {
				for _, bare := range []bool{false, true} {
					want, ok := slowFields(s, l, sep, bare)
					wantFields(t, s, l, sep, bare, want, ok)
				}
			}
		}
	}
}

// P7.2: the chapter's examples.
func TestFieldsExamples(t *testing.T) {
	wantFields(t, "a:b:c", ranges(3, 3, 1, 1), ':', false, "a:c", true)
	wantFields(t, "abc", ranges(1, 1), ':', true, "", false)
	wantFields(t, "abc", ranges(9, 9), ':', false, "abc", true)
	wantFields(t, "a:b", ranges(9, 9), ':', false, "", true)
}

// P7.2: a text without the byte is told whole, or, bare, not at all, whatever the list is.
func TestFieldsWithoutByte(t *testing.T) {
	for _, l := range shortLists() {
		for _, s := range list("", "a", "abc", " a b\t", "a;b", "\x00\n", "é") {
			wantFields(t, s, l, ':', false, s, true)
			wantFields(t, s, l, ':', true, "", false)
		}
	}
}

// P7.2: the byte at the beginning, at the end, twice in a row: empty fields count as others do.
func TestFieldsEmptyFields(t *testing.T) {
	wantBoth(t, ":a", ranges(1, 1), ':', "")
	wantBoth(t, ":a", ranges(2, 2), ':', "a")
	wantBoth(t, ":a", ranges(1, 0), ':', ":a")
	wantBoth(t, "a:", ranges(1, 1), ':', "a")
	wantBoth(t, "a:", ranges(2, 2), ':', "")
	wantBoth(t, "a:", ranges(1, 2), ':', "a:")
	wantBoth(t, "a::c", ranges(2, 0), ':', ":c")
	wantBoth(t, "a::c", ranges(1, 2), ':', "a:")
	wantBoth(t, "a::c", ranges(1, 1, 3, 3), ':', "a:c")
	wantBoth(t, ":", ranges(1, 1), ':', "")
	wantBoth(t, ":", ranges(1, 2), ':', ":")
	wantBoth(t, ":::", ranges(2, 4), ':', "::")
	wantBoth(t, ":::a", ranges(1, 1, 4, 4), ':', ":a")
}

// P7.2: no list, ranges one over another, in any order, behind the end, without an end, that may not be.
func TestFieldsLists(t *testing.T) {
	const s = "a:bb:ccc:d"
	wantBoth(t, s, nil, ':', "")
	wantBoth(t, s, []api.Range{}, ':', "")
	wantBoth(t, s, ranges(1, 3, 2, 4), ':', s)
	wantBoth(t, s, ranges(2, 2, 2, 2), ':', "bb")
	wantBoth(t, s, ranges(4, 4, 2, 2, 1, 1), ':', "a:bb:d")
	wantBoth(t, s, ranges(3, 0, 1, 1), ':', "a:ccc:d")
	wantBoth(t, s, ranges(5, 5), ':', "")
	wantBoth(t, s, ranges(4, 9), ':', "d")
	wantBoth(t, s, ranges(5, 0), ':', "")
	wantBoth(t, s, ranges(3, 2), ':', "")
	wantBoth(t, s, ranges(0, 2), ':', "a:bb")
	wantBoth(t, s, ranges(-3, 0), ':', s)
	wantBoth(t, s, ranges(2, -1), ':', "")
	wantBoth(t, s, ranges(math.MinInt, 1, math.MaxInt, math.MaxInt), ':', "a")
	wantBoth(t, s, ranges(4, math.MaxInt), ':', "d")
}

// P7.2: each byte stands between, and no other one; the byte 0 is one of them, and not a word for blanks.
func TestFieldsEachByte(t *testing.T) {
	for sep := range 256 {
		between := one(sep)
		other := one((sep + 1) % 256)
		s := other + between + between + other + other + between
		wantBoth(t, s, ranges(1, 1, 3, 4), byte(sep), other+between+other+other+between)
		wantBoth(t, s, ranges(2, 2), byte(sep), "")
		wantFields(t, other+other, ranges(2, 2), byte(sep), false, other+other, true)
		wantFields(t, other+other, ranges(2, 2), byte(sep), true, "", false)
		wantFields(t, "", ranges(1, 0), byte(sep), false, "", true)
		wantFields(t, "", ranges(1, 0), byte(sep), true, "", false)
	}
	wantBoth(t, "a b\x00c\td\x00", ranges(2, 3), 0, "c\td\x00")
	wantFields(t, "a b\tc", ranges(2, 2), 0, false, "a b\tc", true)
	wantFields(t, "a b\tc", ranges(2, 2), 0, true, "", false)
	wantBoth(t, " a  b", ranges(2, 3), ' ', "a ")
	wantFields(t, "é", ranges(1, 1), 0xe9, true, "", false)
	wantBoth(t, "é", ranges(2, 2), 0xc3, "\xa9")
}

// P7.3: the chapter's examples.
func TestFoldExamples(t *testing.T) {
	wantFold(t, "abcdef", 4, false, "abcd", "ef")
	wantFold(t, "ab cd ef", 4, true, "ab ", "cd ", "ef")
	wantFold(t, "abcdef", 4, true, "abcd", "ef")
	wantFold(t, "", 4, false, "")
	wantFold(t, "abcd", 4, false, "abcd")
}

// P7.3: n is 1 to 65536.
func TestFoldArgument(t *testing.T) {
	for _, s := range list("", "a", "a b c", strings.Repeat("a", maxFold+2)) {
		for _, blanks := range []bool{false, true} {
			for _, n := range []int{0, -1, -4, maxFold + 1, maxFold + 2, math.MinInt, math.MaxInt, 1 << 32, 1<<32 + 4} {
				wantFoldError(t, s, n, blanks)
			}
		}
	}
	for _, blanks := range []bool{false, true} {
		wantFold(t, "", 1, blanks, "")
		wantFold(t, "a", 1, blanks, "a")
		wantFold(t, "a b\t", 1, blanks, "a", " ", "b", "\t")
		wantFold(t, "", maxFold, blanks, "")
		wantFold(t, "a b", maxFold, blanks, "a b")
	}
}

// P7.3: texts of n bytes, of one fewer, of one more.
func TestFoldSizes(t *testing.T) {
	for _, n := range []int{1, 2, 3, 8, 80, 4096, maxFold - 1, maxFold} {
		part := strings.Repeat("x", n)
		for _, blanks := range []bool{false, true} {
			wantFold(t, part[1:], n, blanks, part[1:])
			wantFold(t, part, n, blanks, part)
			wantFold(t, part+"y", n, blanks, part, "y")
			wantFold(t, part+part, n, blanks, part, part)
			wantFold(t, part+part+"y", n, blanks, part, part, "y")
		}
	}
}

// P7.3: blanks at the beginning, at the n-th byte, just behind it; none; those of a text that is not longer than n part nothing.
func TestFoldBlanks(t *testing.T) {
	for _, blank := range list(" ", "\t") {
		at := func(s string) string { return strings.ReplaceAll(s, "_", blank) }
		wantFold(t, at("_abcdef"), 4, true, blank, "abcd", "ef")
		wantFold(t, at("_abc"), 4, true, at("_abc"))
		wantFold(t, at("abc_def"), 4, true, at("abc_"), "def")
		wantFold(t, at("abc_"), 4, true, at("abc_"))
		wantFold(t, at("abcd_ef"), 4, true, "abcd", at("_ef"))
		wantFold(t, at("abcd_efgh"), 4, true, "abcd", blank, "efgh")
		wantFold(t, at("abcd_"), 4, true, "abcd", blank)
		wantFold(t, at("a_b_cdef"), 4, true, at("a_b_"), "cdef")
		wantFold(t, at("a_bcd_ef"), 4, true, at("a_"), at("bcd_"), "ef")
		wantFold(t, at("____a"), 4, true, at("____"), "a")
		wantFold(t, at("_____"), 4, true, at("____"), blank)
		wantFold(t, at("a__bcd"), 4, true, at("a__"), "bcd")
		wantFold(t, at("ab_cdefghijk"), 4, true, at("ab_"), "cdef", "ghij", "k")
		wantFold(t, at("ab_cd_ef"), 4, false, at("ab_c"), at("d_ef"))
		wantFold(t, at("a_b"), 4, true, at("a_b"))
	}
	wantFold(t, "a \tbcd", 4, true, "a \t", "bcd")
	wantFold(t, "a\t bcd", 4, true, "a\t ", "bcd")
	wantFold(t, "a\tb cd", 5, true, "a\tb ", "cd")
	wantFold(t, "a b\tcd", 5, true, "a b\t", "cd")
	wantFold(t, "abcdefgh", 4, true, "abcd", "efgh")
}

// P7.3: 32 and 9 are blanks, and no other byte; a byte 10 is as any other.
func TestFoldEachByte(t *testing.T) {
	for c := range 256 {
		s := "a" + one(c) + "bcde"
		if c == 32 || c == 9 {
			wantFold(t, s, 4, true, s[:2], s[2:])
		} else {
			wantFold(t, s, 4, true, s[:4], s[4:])
		}
		wantFold(t, s, 4, false, s[:4], s[4:])
	}
	wantFold(t, "a\nb\nc", 2, true, "a\n", "b\n", "c")
	wantFold(t, "é", 1, false, "\xc3", "\xa9")
}

// P7.3, P7.6: all short texts; the parts are the text, and none is longer than n.
func TestFoldShort(t *testing.T) {
	for _, s := range shortTexts("a \t", 8) {
		for n := 1; n < 10; n++ {
			for _, blanks := range []bool{false, true} {
				wantFold(t, s, n, blanks, slowFold(s, n, blanks)...)
				wantPartsOf(t, s, n, blanks)
			}
		}
	}
}

// wantPartsOf: what P7.6 says of Fold.
func wantPartsOf(t *testing.T, s string, n int, blanks bool) {
	t.Helper()
	l, e := cuts.Fold(s, n, blanks)
	if e != api.OK || strings.Join(l, "") != s {
		t.Errorf("Fold(%.50q, %d, %v): the parts %.100q are not the text, %d", s, n, blanks, l, e)
	}
	for i, part := range l {
		if len(part) > n || part == "" && s != "" {
			t.Errorf("Fold(%.50q, %d, %v): the part %d has %d bytes", s, n, blanks, i, len(part))
		}
	}
}

// P7.3, P7.6: long texts; they end soon.
func TestFoldLong(t *testing.T) {
	long := strings.Repeat("abc de\tfghij \nk", 1<<16)
	far := strings.Repeat(" "+strings.Repeat("x", maxFold-1), 20) // the last blank is as far ahead as can be
	for _, s := range list(long, far, strings.Repeat("x", 1<<20), strings.Repeat(" ", 1<<20)) {
		for _, n := range []int{1, 2, 7, 1000, maxFold - 1, maxFold} {
			for _, blanks := range []bool{false, true} {
				wantPartsOf(t, s, n, blanks)
			}
		}
	}
	for _, n := range []int{100, 1000, maxFold} {
		wantFold(t, long, n, true, slowFold(long, n, true)...)
		wantFold(t, far, n, true, slowFold(far, n, true)...)
	}
}

// P7.4: the chapter's examples.
func TestExpandExamples(t *testing.T) {
	wantExpand(t, "a\tb", 4, "a   b")
	wantExpand(t, "\t\t", 2, "    ")
	wantExpand(t, "abcd\te", 4, "abcd    e")
	wantExpandError(t, "a", 0, api.ErrArg)
}

// P7.4: n is 1 to 100.
func TestExpandArgument(t *testing.T) {
	for _, s := range list("", "a", "\t", "a\tb\n", strings.Repeat("a", api.MaxText+1), strings.Repeat("\t", api.MaxText+1)) {
		for _, n := range []int{0, -1, -4, maxStop + 1, maxStop + 2, 1000, math.MinInt, math.MaxInt, 1 << 32, 1<<32 + 4} {
			wantExpandError(t, s, n, api.ErrArg)
		}
	}
	wantExpand(t, "a\tb\t\tc\n\td", 1, "a b  c\n d")
	wantExpand(t, "a\tb", maxStop, "a"+strings.Repeat(" ", 99)+"b")
	wantExpand(t, "\tb", maxStop, strings.Repeat(" ", 100)+"b")
	full := strings.Repeat("x", 100)
	wantExpand(t, full+"\tb", maxStop, full+spaces(100)+"b")
	wantExpand(t, full[1:]+"\tb", maxStop, full[1:]+" b")
}

// P7.4: texts without bytes 9, several in a row, in several lines; what counts is what is told.
func TestExpandStops(t *testing.T) {
	for n := 1; n <= maxStop; n++ {
		for _, s := range list("", "a", "a b", "\n", "ab\ncd\n", "\x00\xff\v\f\r\b", "é") {
			wantExpand(t, s, n, s)
		}
		for ahead := range 2*n + 2 {
			x := strings.Repeat("x", ahead)
			gap := spaces((ahead/n+1)*n - ahead)
			wantExpand(t, x+"\ty", n, x+gap+"y")
			wantExpand(t, x+"\t", n, x+gap)
			wantExpand(t, x+"\t\t\ty", n, x+gap+spaces(2*n)+"y")
			wantExpand(t, "ab\t\n"+x+"\ty", n, slowExpand("ab\t\n", n)+x+gap+"y")
		}
	}
	wantExpand(t, "a\tbc\td", 4, "a   bc  d")
	wantExpand(t, "ab\n\tc", 4, "ab\n    c")
	wantExpand(t, "\n\t", 4, "\n    ")
	wantExpand(t, "\t\n\t", 4, "    \n    ")
	wantExpand(t, "abc\td\n\n\te\n", 4, "abc d\n\n    e\n")
	wantExpand(t, "  \tx", 4, "    x")
}

// P7.4: bytes count, not runes, and a byte 10 alone ends a line.
func TestExpandEachByte(t *testing.T) {
	for c := range 256 {
		s := "a" + one(c) + "b\tc"
		switch c {
		case 9:
			wantExpand(t, s, 4, "a   b   c")
		case 10:
			wantExpand(t, s, 4, "a\nb   c")
		default:
			wantExpand(t, s, 4, "a"+one(c)+"b c")
		}
	}
	wantExpand(t, "é\tx", 4, "é  x")
}

// P7.4: all short texts.
func TestExpandShort(t *testing.T) {
	for _, s := range shortTexts("a\t\n ", 6) {
		for _, n := range []int{1, 2, 3, 4, 8, 99, 100} {
			wantExpand(t, s, n, slowExpand(s, n))
		}
	}
}

// P7.4: what is told has at most MaxText bytes.
func TestExpandLimit(t *testing.T) {
	plain := strings.Repeat("x", api.MaxText)
	ends := strings.Repeat("\n", api.MaxText)
	for _, s := range list(plain, ends, spaces(api.MaxText)) {
		for _, n := range []int{1, 3, 8, maxStop} {
			wantExpand(t, s, n, s)
			wantExpandError(t, s+"x", n, api.ErrLimit)
			wantExpandError(t, s+"\n", n, api.ErrLimit)
			wantExpandError(t, s+"\t", n, api.ErrLimit)
			wantExpandError(t, "\t"+s, n, api.ErrLimit)
		}
	}
	for _, n := range []int{1, 2, 64} {
		tabs := strings.Repeat("\t", api.MaxText/n)
		wantExpand(t, tabs, n, spaces(api.MaxText))
		wantExpandError(t, tabs+"\t", n, api.ErrLimit)
		wantExpandError(t, tabs+"\n", n, api.ErrLimit)
		wantExpandError(t, "x\n"+tabs, n, api.ErrLimit)
	}
	wantExpand(t, strings.Repeat("\t", 10485)+plain[:76], maxStop, spaces(1048500)+plain[:76])
	wantExpandError(t, strings.Repeat("\t", 10485)+plain[:77], maxStop, api.ErrLimit)
	wantExpandError(t, strings.Repeat("\t", 10486), maxStop, api.ErrLimit)
	wantExpand(t, plain[3:]+"\t", 4, plain[3:]+"   ")
	wantExpandError(t, plain[1:]+"\t", 3, api.ErrLimit) // one byte is left, the next stop is three on
	wantExpandError(t, strings.Repeat("\t", 1<<24), maxStop, api.ErrLimit)
}

// P7.5: the chapter's example.
func TestNumberExamples(t *testing.T) {
	wantNumber(t, list("a", "b"), 9, 3, "  9\ta", " 10\tb")
}

// P7.5: no lines; from and wide below 0, 0, at their greatest, above.
func TestNumberEdges(t *testing.T) {
	froms := []struct{ from, is int }{{math.MinInt, 0}, {-5, 0}, {-1, 0}, {0, 0}, {1, 1}, {9, 9}, {999, 999}, {maxFrom - 1, maxFrom - 1}, {maxFrom, maxFrom}, {maxFrom + 1, maxFrom}, {1 << 32, maxFrom}, {1<<32 + 5, maxFrom}, {math.MaxInt, maxFrom}}
	wides := []struct{ wide, is int }{{math.MinInt, 0}, {-5, 0}, {-1, 0}, {0, 0}, {1, 1}, {2, 2}, {9, 9}, {10, 10}, {11, 11}, {31, 31}, {maxWide, maxWide}, {maxWide + 1, maxWide}, {1 << 32, maxWide}, {math.MaxInt, maxWide}}
	for _, f := range froms {
		for _, w := range wides {
			wantNumber(t, nil, f.from, w.wide)
			wantNumber(t, list(), f.from, w.wide)
			var l, want []string
			for i, line := range list("a", "", "b c", "\td\n") {
				l = append(l, line)
				want = append(want, fmt.Sprintf("%*d\t%s", w.is, f.is+i, line))
			}
			wantNumber(t, l, f.from, w.wide, want...)
		}
	}
}

// P7.5: written out, so that what the library tells is not believed alone.
func TestNumberWritten(t *testing.T) {
	wantNumber(t, list("a"), -5, -5, "0\ta")
	wantNumber(t, list("", "\x00\xff"), 0, 2, " 0\t", " 1\t\x00\xff")
	wantNumber(t, list("a", "b"), 99, 2, "99\ta", "100\tb")
	wantNumber(t, list("a", "b"), 99, 3, " 99\ta", "100\tb")
	wantNumber(t, list("a", "b"), maxFrom, 0, "2147483647\ta", "2147483648\tb")
	wantNumber(t, list("a", "b"), math.MaxInt, 11, " 2147483647\ta", " 2147483648\tb")
	wantNumber(t, list("a"), 7, maxWide, "                               7\ta")
	wantNumber(t, list("a"), 7, maxWide+1, "                               7\ta")
	wantNumber(t, list(" 1\ta"), 1, 1, "1\t 1\ta")
}

// P7.5: many lines; there is no limit to them.
func TestNumberMany(t *testing.T) {
	const n = api.MaxLines + 1000
	l := make([]string, n)
	for i := range l {
		l[i] = "x"
	}
	got := cuts.Number(l, 0, 5)
	if len(got) != n {
		t.Fatalf("Number of %d lines: %d", n, len(got))
	}
	for i, line := range got {
		if want := fmt.Sprintf("%5d\tx", i); line != want {
			t.Fatalf("Number: the line %d is %q, want %q", i, line, want)
		}
	}
}

// P7.6: with the list 1- a line is whole.
func TestWholeLine(t *testing.T) {
	whole := ranges(1, 0)
	long := strings.Repeat("ab:c\x00\xff", 1<<16)
	for _, s := range append(shortTexts("a:\x00\n", 5), "é:\xff", long) {
		wantBytes(t, s, whole, s)
		for _, sep := range list(":", "\x00", "\n", "\xff", "a") {
			wantFields(t, s, whole, sep[0], false, s, true)
			if strings.Contains(s, sep) {
				wantFields(t, s, whole, sep[0], true, s, true)
			}
		}
	}
}

// spoil writes into a list and into its spare room.
func spoil(l []string) {
	l = l[:cap(l)]
	for i := range l {
		l[i] = "spoilt"
	}
}

// R4: a list that is handed in stays as it is, its spare room too.
func TestHandedIn(t *testing.T) {
	all := ranges(3, 3, 1, 2, 2, 0, 9, 9, 7, 7)
	was := slices.Clone(all)
	cuts.Bytes("abcdef", all[:3])
	cuts.Fields("a:b:c:d", all[:3], ':', true)
	cuts.Fields("abc", all[:3], ':', false)
	cuts.Bytes("abcdef", all[:0])
	if !slices.Equal(all, was) {
		t.Errorf("a list of places was changed: %v, it was %v", all, was)
	}
	texts := list("a", "", "b\n", "spare", "room")
	had := slices.Clone(texts)
	for n := range 4 {
		cuts.Number(texts[:n], 1, 3)
	}
	if !slices.Equal(texts, had) {
		t.Errorf("a list of lines was changed: %q, it was %q", texts, had)
	}
}

// R4: an answer is new memory, its spare room too.
func TestAnswersNew(t *testing.T) {
	texts := list("a", "b", "c", "d", "e", "spare")
	fold := func() []string {
		l, _ := cuts.Fold("ab cd ef gh ij", 3, true)
		return l
	}
	whole := func() []string {
		l, _ := cuts.Fold("", 3, false)
		return l
	}
	for _, c := range []struct {
		name string
		call func() []string
		want []string
	}{
		{"Fold", fold, list("ab ", "cd ", "ef ", "gh ", "ij")},
		{"Fold of the empty text", whole, list("")},
		{"Number", func() []string { return cuts.Number(texts[:5], 8, 2) }, list(" 8\ta", " 9\tb", "10\tc", "11\td", "12\te")},
		{"Number of none", func() []string { return cuts.Number(texts[:0], 8, 2) }, nil},
	} {
		first, second := c.call(), c.call()
		spoil(first)
		if third := c.call(); !slices.Equal(second, c.want) || !slices.Equal(third, c.want) {
			t.Errorf("%s: %q and %q behind a change of another answer, want %q", c.name, second, third, c.want)
		}
	}
	if want := list("a", "b", "c", "d", "e", "spare"); !slices.Equal(texts, want) {
		t.Errorf("Number's answer shares memory with its list: %q", texts)
	}
	told := cuts.Number(texts[:2], 1, 1)
	spoil(texts)
	if !slices.Equal(told, list("1\ta", "2\tb")) {
		t.Errorf("Number's answer hangs on its list: %q", told)
	}
}

// R1: any bytes, any numbers, any lists: every call ends, none panics, and what it answers is what the slow ways say.
func TestAny(t *testing.T) {
	r := rand.New(rand.NewSource(7))
	ends := []int{math.MinInt, math.MinInt + 1, -2, 0, 1, 3, 8, 20, 40, maxFold, math.MaxInt32, math.MaxInt - 1, math.MaxInt}
	some := func() int {
		if r.Intn(2) == 0 {
			return r.Intn(30)
		}
		return ends[r.Intn(len(ends))]
	}
	bytes := [8]byte{9, 32, 10, 'a', 0, 0xff, 0xc3, ':'}
	for range 20000 {
		text := make([]byte, r.Intn(40))
		for i := range text {
			text[i] = bytes[r.Intn(len(bytes))]
		}
		s := string(text)
		var l []api.Range
		for range r.Intn(5) {
			l = append(l, api.Range{From: some(), To: some()})
		}
		wantBytes(t, s, l, slowBytes(s, l))
		sep, bare := bytes[r.Intn(len(bytes))], r.Intn(2) == 0
		want, ok := slowFields(s, l, sep, bare)
		wantFields(t, s, l, sep, bare, want, ok)
		n := some()
		if 1 <= n && n <= maxFold {
			wantFold(t, s, n, bare, slowFold(s, n, bare)...)
		} else {
			wantFoldError(t, s, n, bare)
		}
		if 1 <= n && n <= maxStop {
			wantExpand(t, s, n, slowExpand(s, n))
		} else {
			wantExpandError(t, s, n, api.ErrArg)
		}
		from, wide := some(), some()
		wantNumber(t, list(s), from, wide, fmt.Sprintf("%*d\t%s", min(max(wide, 0), maxWide), min(max(from, 0), maxFrom), s))
	}
}
