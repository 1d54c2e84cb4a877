package views_test

import (
	"fmt"
	"math"
	"math/rand"
	"slices"
	"strings"
	"testing"

	"toolchest/api"
	"toolchest/views"
)

func list(l ...string) []string { return l }

func lists(l ...[]string) [][]string { return l }

// one: the text of one byte.
func one(c int) string { return string([]byte{byte(c)}) }

// everyByte: from 0 to 255.
func everyByte() string {
	all := make([]byte, 256)
	for i := range all {
		all[i] = byte(i)
	}
	return string(all)
}

// shortTexts: all texts of at most so many bytes that are made of these ones.
func shortTexts(bytes string, most int) []string {
	out := []string{""}
	for from, n := 0, 0; n < most; n++ {
		to := len(out)
		for _, s := range out[from:to] {
			for i := range len(bytes) {
				out = append(out, s+bytes[i:i+1])
			}
		}
		from = to
	}
	return out
}

// shortLists: all lists of at most so many of these texts.
func shortLists(texts []string, most int) [][]string {
	out := [][]string{nil}
	for from, n := 0, 0; n < most; n++ {
		to := len(out)
		for i := from; i < to; i++ {
			for _, s := range texts {
				out = append(out, append(slices.Clone(out[i]), s))
			}
		}
		from = to
	}
	return out
}

func slowCmp(a, b string) (at, line, ends int) {
	for n := 1; n <= min(len(a), len(b)); n++ {
		if a[:n] != b[:n] {
			return n, len(strings.Split(b[:n-1], "\n")), 0
		}
	}
	if len(a) < len(b) {
		return 0, 0, 1
	}
	if len(a) > len(b) {
		return 0, 0, 2
	}
	return 0, 0, 0
}

func slowPaste(l [][]string, seps string) []string {
	var out []string
	for n := 0; ; n++ {
		line, some, left := "", false, ""
		for i, texts := range l {
			if i > 0 && seps != "" {
				if left == "" {
					left = seps
				}
				line += left[:1]
				left = left[1:]
			}
			if len(texts) > n {
				line += texts[n]
				some = true
			}
		}
		if !some {
			return out
		}
		out = append(out, line)
	}
}

// slowField: the n-th field of a line, and the other ones.
func slowField(line string, n int, sep byte) (string, []string) {
	var fields []string
	if sep == 0 {
		fields = strings.FieldsFunc(strings.ReplaceAll(line, "\t", " "), func(r rune) bool { return r == ' ' })
	} else {
		fields = strings.Split(line, one(int(sep)))
	}
	if n > len(fields) {
		return "", fields
	}
	return fields[n-1], append(slices.Clone(fields[:n-1]), fields[n:]...)
}

func slowOrder(l []string, n int, sep byte) bool {
	for i := 1; i < len(l); i++ {
		ahead, _ := slowField(l[i-1], n, sep)
		behind, _ := slowField(l[i], n, sep)
		if ahead > behind {
			return false
		}
	}
	return true
}

func slowJoin(a, b []string, f, g int, sep byte) ([]string, api.Errno) {
	if f < 1 || f > 1000 || g < 1 || g > 1000 || sep == 10 || !slowOrder(a, f, sep) || !slowOrder(b, g, sep) {
		return nil, api.ErrArg
	}
	between := " "
	if sep != 0 {
		between = one(int(sep))
	}
	var out []string
	for _, x := range a {
		for _, y := range b {
			left, some := slowField(x, f, sep)
			right, others := slowField(y, g, sep)
			if left == right {
				out = append(out, strings.Join(slices.Concat(list(left), some, others), between))
			}
		}
	}
	if len(out) > api.MaxLines {
		return nil, api.ErrLimit
	}
	return out, api.OK
}

// slowSum moves bit by bit, as the words of P8.4 do.
func slowSum(s string) uint32 {
	all := []byte(s)
	for n := len(s); n > 0; n /= 256 {
		all = append(all, byte(n%256))
	}
	x := uint32(0)
	for _, c := range all {
		x ^= uint32(c) << 24
		for range 8 {
			if x >= 1<<31 {
				x = x<<1 ^ 0x04c11db7
			} else {
				x <<= 1
			}
		}
	}
	return math.MaxUint32 - x
}

func slowDump(s string) string {
	var b strings.Builder
	for i := range len(s) {
		if i%16 == 0 {
			fmt.Fprintf(&b, "%07o", i)
		}
		fmt.Fprintf(&b, " %03o", s[i])
		if i%16 == 15 || i == len(s)-1 {
			b.WriteString("\n")
		}
	}
	fmt.Fprintf(&b, "%07o\n", len(s))
	return b.String()
}

func wantCmp(t *testing.T, a, b string, at, line, ends int) {
	t.Helper()
	if x, y, z := views.Cmp(a, b); x != at || y != line || z != ends {
		t.Errorf("Cmp(%.40q, %.40q): %d %d %d, want %d %d %d", a, b, x, y, z, at, line, ends)
	}
}

func wantPaste(t *testing.T, l [][]string, seps string, want ...string) {
	t.Helper()
	if got := views.Paste(l, seps); !slices.Equal(got, want) {
		t.Errorf("Paste(%.200q, %q): %.200q, want %.200q", l, seps, got, want)
	}
}

func wantJoin(t *testing.T, a, b []string, f, g int, sep byte, want ...string) {
	t.Helper()
	if got, e := views.Join(a, b, f, g, sep); !slices.Equal(got, want) || e != api.OK {
		t.Errorf("Join(%.100q, %.100q, %d, %d, %d): %.200q %d, want %.200q", a, b, f, g, sep, got, e, want)
	}
}

func wantJoinError(t *testing.T, a, b []string, f, g int, sep byte, want api.Errno) {
	t.Helper()
	if got, e := views.Join(a, b, f, g, sep); len(got) != 0 || e != want {
		t.Errorf("Join(%.100q, %.100q, %d, %d, %d): %.200q %d, want none and %d", a, b, f, g, sep, got, e, want)
	}
}

// wantSlowJoin: what the slow way says.
func wantSlowJoin(t *testing.T, a, b []string, f, g int, sep byte) {
	t.Helper()
	want, e := slowJoin(a, b, f, g, sep)
	if e != api.OK {
		wantJoinError(t, a, b, f, g, sep, e)
		return
	}
	wantJoin(t, a, b, f, g, sep, want...)
}

func wantSum(t *testing.T, s string, want uint32) {
	t.Helper()
	if got := views.Sum(s); got != want {
		t.Errorf("Sum(%.40q), of %d bytes: %d, want %d", s, len(s), got, want)
	}
}

func wantDump(t *testing.T, s, want string) {
	t.Helper()
	if got := views.Dump(s); got != want {
		t.Errorf("Dump(%.40q), of %d bytes: %.400q, want %.400q", s, len(s), got, want)
	}
}

// P8.1: the chapter's examples.
func TestCmpExamples(t *testing.T) {
	wantCmp(t, "abc", "abd", 3, 1, 0)
	wantCmp(t, "a\nb", "a\nc", 3, 2, 0)
	wantCmp(t, "ab", "abc", 0, 0, 1)
	wantCmp(t, "abc", "ab", 0, 0, 2)
	wantCmp(t, "a", "a", 0, 0, 0)
}

// P8.1: texts that are the same, or of which one is the beginning of the other one.
func TestCmpEnds(t *testing.T) {
	for _, s := range list("", "a", "\n", "a\n", "\n\n\n", "a\nb", "\x00", "\xff\xfe", strings.Repeat("ab\n", 1000)) {
		wantCmp(t, s, s, 0, 0, 0)
		for _, more := range list("a", "\n", "\x00", "a\n\nb") {
			wantCmp(t, s, s+more, 0, 0, 1)
			wantCmp(t, s+more, s, 0, 0, 2)
		}
	}
}

// P8.1: the first unlike byte at the beginning, at the end, behind ends of lines, at one of them.
func TestCmpPlaces(t *testing.T) {
	for _, c := range []struct {
		a, b     string
		at, line int
	}{
		{"a", "b", 1, 1},
		{"abc", "xbc", 1, 1},
		{"abc", "abx", 3, 1},
		{"\na", "\nb", 2, 2},
		{"\n", "a", 1, 1},
		{"a\n", "ab", 2, 1},
		{"a\nb\n", "a\nbc", 4, 2},
		{"\n\n\na", "\n\n\nb", 4, 4},
		{"a\n\nbc\nd", "a\n\nbc\nx", 7, 4},
		{"abc", "axcde", 2, 1},
		{"a\nb\nc", "a\nx\ny", 3, 2},
		{"abc\n", "abcd\n", 4, 1},
		{"a", "\x00", 1, 1},
		{"\xc3\xa4", "\xc3\xb6", 2, 1},
		{"x\r\r", "x\r ", 3, 1},
	} {
		wantCmp(t, c.a, c.b, c.at, c.line, 0)
		wantCmp(t, c.b, c.a, c.at, c.line, 0)
	}
}

// P8.1: each two bytes; a byte 10 alone counts as an end.
func TestCmpEachByte(t *testing.T) {
	for x := range 256 {
		line := 1
		if x == 10 {
			line = 2
		}
		wantCmp(t, one(x)+"a", one(x)+"b", 2, line, 0)
		for y := range 256 {
			if x == y {
				wantCmp(t, one(x), one(y), 0, 0, 0)
			} else {
				wantCmp(t, one(x)+"a", one(y), 1, 1, 0)
			}
		}
	}
}

// P8.1: each place of a long text.
func TestCmpLong(t *testing.T) {
	s := strings.Repeat("abcdefg\n", api.MaxText/8)
	for _, at := range []int{1, 2, 7, 8, 9, 4096, 65536, 65537, api.MaxText - 1, api.MaxText} {
		other := s[:at-1] + "x" + s[at:]
		wantCmp(t, s, other, at, (at-1)/8+1, 0)
		wantCmp(t, other, s, at, (at-1)/8+1, 0)
	}
	wantCmp(t, s, s+"x", 0, 0, 1)
	wantCmp(t, s, strings.Clone(s), 0, 0, 0)
}

// P8.1, P8.6: all pairs of short texts; they are the same just if there are three times 0.
func TestCmpShort(t *testing.T) {
	texts := shortTexts("a\n\xff", 4)
	for _, a := range texts {
		for _, b := range texts {
			at, line, ends := slowCmp(a, b)
			wantCmp(t, a, b, at, line, ends)
			if x, y, z := views.Cmp(a, b); (x == 0 && y == 0 && z == 0) != (a == b) {
				t.Errorf("Cmp(%q, %q): %d %d %d", a, b, x, y, z)
			}
		}
	}
}

// P8.2: the chapter's examples.
func TestPasteExamples(t *testing.T) {
	wantPaste(t, lists(list("a", "b", "c"), list("1", "2")), ":", "a:1", "b:2", "c:")
	wantPaste(t, lists(list("a"), list("b"), list("c")), ":-", "a:b-c")
	wantPaste(t, lists(list("a"), list("b")), "", "ab")
	wantPaste(t, nil, ":")
}

// P8.2: no lists, lists without lines, one list, lists of unlike lengths.
func TestPasteLists(t *testing.T) {
	for _, seps := range list("", ":", ":-", ":-+/") {
		wantPaste(t, nil, seps)
		wantPaste(t, [][]string{}, seps)
		wantPaste(t, lists(nil), seps)
		wantPaste(t, lists(nil, list(), nil), seps)
		wantPaste(t, lists(list("a", "", "b")), seps, "a", "", "b")
		wantPaste(t, lists(list("")), seps, "")
	}
	wantPaste(t, lists(nil, list("a", "b")), ":", ":a", ":b")
	wantPaste(t, lists(list("a", "b"), nil), ":", "a:", "b:")
	wantPaste(t, lists(nil, list("a"), nil), ":-", ":a-")
	wantPaste(t, lists(list("a"), list("1", "2", "3"), list("x", "y")), ":", "a:1:x", ":2:y", ":3:")
	wantPaste(t, lists(list("a"), list("1", "2", "3"), list("x", "y")), "", "a1x", "2y", "3")
	wantPaste(t, lists(list("", ""), list("")), ":", ":", ":")
	wantPaste(t, lists(list("", ""), list("")), "", "", "")
	wantPaste(t, lists(list("a\n", "b:"), list("\nc", ":")), ":", "a\n:\nc", "b:::")
}

// P8.2: fewer bytes than stand between, as many, more; each line begins with the first one.
func TestPasteSeps(t *testing.T) {
	l := lists(list("a", "1"), list("b", "2"), list("c", "3"), list("d", "4"), list("e", "5"))
	for seps, want := range map[string][]string{
		"":         list("abcde", "12345"),
		":":        list("a:b:c:d:e", "1:2:3:4:5"),
		":-":       list("a:b-c:d-e", "1:2-3:4-5"),
		":-+":      list("a:b-c+d:e", "1:2-3+4:5"),
		":-+/":     list("a:b-c+d/e", "1:2-3+4/5"),
		":-+/#":    list("a:b-c+d/e", "1:2-3+4/5"),
		":-+/#xy":  list("a:b-c+d/e", "1:2-3+4/5"),
		"\xc3\xa4": list("a\xc3b\xa4c\xc3d\xa4e", "1\xc32\xa43\xc34\xa45"),
	} {
		wantPaste(t, l, seps, want...)
	}
	for x := range 256 {
		wantPaste(t, lists(list("a"), list("b"), list(one(x))), one(x), "a"+one(x)+"b"+one(x)+one(x))
	}
}

// P8.2: many lines, many lists.
func TestPasteMany(t *testing.T) {
	long := make([]string, 100000)
	for i := range long {
		long[i] = fmt.Sprint(i)
	}
	got := views.Paste(lists(long, long[:10], long[50:]), ",;")
	if len(got) != len(long) {
		t.Fatalf("%d lines, want %d", len(got), len(long))
	}
	for i, line := range got {
		want := long[i] + ","
		if i < 10 {
			want += long[i]
		}
		want += ";"
		if i+50 < len(long) {
			want += long[i+50]
		}
		if line != want {
			t.Fatalf("line %d: %q, want %q", i, line, want)
		}
	}
	var wide [][]string
	for range 10000 {
		wide = append(wide, list("x"))
	}
	wantPaste(t, wide, "01", "x"+strings.Repeat("0x1x", 9998/2)+"0x")
}

// P8.2: all short lists of lists.
func TestPasteShort(t *testing.T) {
	some := shortLists(list("", "a", "b:"), 2)
	for _, x := range some {
		for _, y := range some {
			for _, z := range some {
				l := lists(x, y, z)
				for _, seps := range list("", ":", ":-", "ab:-") {
					wantPaste(t, l, seps, slowPaste(l, seps)...)
				}
			}
		}
	}
}

// P8.3: the chapter's examples.
func TestJoinExamples(t *testing.T) {
	wantJoin(t, list("a:1", "b:2", "b:3"), list("b:x", "c:y"), 1, 1, ':', "b:2:x", "b:3:x")
	wantJoin(t, list("x 1"), list("1 y"), 2, 1, 0, "1 x y")
	wantJoinError(t, list("b", "a"), nil, 1, 1, ':', api.ErrArg)
}

// P8.3: f and g from 1 to 1000.
func TestJoinFields(t *testing.T) {
	for _, n := range []int{math.MinInt, math.MinInt32, -1000, -1, 0, 1001, 1002, 65536, math.MaxInt32, math.MaxInt} {
		for _, l := range lists(nil, list("a:b"), list("b", "a")) {
			wantJoinError(t, l, l, n, 1, ':', api.ErrArg)
			wantJoinError(t, l, l, 1, n, ':', api.ErrArg)
			wantJoinError(t, l, l, n, n, 0, api.ErrArg)
		}
	}
	wantJoin(t, nil, nil, 1, 1000, ':')
	wantJoin(t, nil, nil, 1000, 1, ':')
	wide := make([]string, 1001)
	for i := range wide {
		wide[i] = fmt.Sprint(i + 1)
	}
	for _, n := range []int{1, 2, 500, 999, 1000} {
		others := strings.Join(slices.Delete(slices.Clone(wide), n-1, n), ":")
		key := fmt.Sprint(n)
		wantJoin(t, list(strings.Join(wide, ":")), list(key), n, 1, ':', key+":"+others)
		wantJoin(t, list(key), list(strings.Join(wide, ":")), 1, n, ':', key+":"+others)
		short := strings.Join(wide[:n-1], ":")
		if n > 1 {
			wantJoin(t, list(short), list("x:"), n, 2, ':', ":"+short+":x")
		}
	}
}

// P8.3: any byte between, but for 10; 0 goes by blanks, and tells a byte 32.
func TestJoinSep(t *testing.T) {
	for x := range 256 {
		s := one(x)
		a, b := list("k"+s+"m"+s+s+"n"), list("p"+s+"k"+s)
		switch x {
		case 0:
			wantJoin(t, list("k\tm  n "), list(" p \t k\x00"), 1, 2, 0)
			wantJoin(t, list("k\tm  n "), list(" p \t k\t"), 1, 2, 0, "k m n p")
		case 10:
			wantJoinError(t, a, b, 1, 2, 10, api.ErrArg)
			wantJoinError(t, nil, nil, 1, 1, 10, api.ErrArg)
		case 'k', 'm', 'n', 'p': // these part the fields themselves
			wantSlowJoin(t, a, b, 1, 2, byte(x))
		default:
			wantJoin(t, a, b, 1, 2, byte(x), "k"+s+"m"+s+s+"n"+s+"p"+s)
		}
	}
	wantJoin(t, list("a  b"), list("a b"), 1, 1, ' ', "a  b b")
	wantJoin(t, list("a\tb"), list("a b"), 1, 1, ' ')
	wantJoin(t, list("a\tb"), list("a b"), 1, 1, 0, "a b b")
	wantJoin(t, list("a\vb\n"), list("a\vb\n c"), 1, 1, 0, "a\vb\n c")
}

// P8.3: lists without lines.
func TestJoinNone(t *testing.T) {
	for _, sep := range []byte{0, ':', 255} {
		wantJoin(t, nil, nil, 1, 1, sep)
		wantJoin(t, []string{}, nil, 1000, 1, sep)
		wantJoin(t, list("a", "b"), nil, 1, 1, sep)
		wantJoin(t, nil, list("a", "b"), 1, 1, sep)
		wantJoin(t, list("a", "c"), list("b", "d"), 1, 1, sep)
		wantJoinError(t, list("b", "a"), nil, 1, 1, sep, api.ErrArg)
		wantJoinError(t, nil, list("b", "a"), 1, 1, sep, api.ErrArg)
	}
}

// P8.3: a field that a line has not is empty, and like any other field that is empty.
func TestJoinFewer(t *testing.T) {
	wantJoin(t, list("x"), list("y"), 2, 2, ':', ":x:y")
	wantJoin(t, list("x:"), list("y"), 2, 2, ':', ":x:y")
	wantJoin(t, list("x:"), list(":y"), 2, 1, ':', ":x:y")
	wantJoin(t, list("x"), list("y"), 2, 1, ':')
	wantJoin(t, list(""), list(""), 1, 1, ':', "")
	wantJoin(t, list(""), list(""), 2, 1, ':', ":")
	wantJoin(t, list(""), list(""), 2, 3, ':', "::")
	wantJoin(t, list(""), list(""), 1, 1, 0, "")
	wantJoin(t, list("  "), list("\t"), 5, 7, 0, "")
	wantJoin(t, list("a b"), list("c"), 3, 2, 0, " a b c")
	wantJoin(t, list("a"), list("a"), 1, 1, 0, "a")
	wantJoin(t, list("a"), list("a"), 1, 1, ':', "a")
	wantJoin(t, list("a:"), list("a"), 1, 1, ':', "a:")
	wantJoin(t, list("a"), list("a:"), 1, 1, ':', "a:")
	wantJoin(t, list("x", "y:", "z:1"), list("p", "q:1"), 2, 2, ':', ":x:p", ":y:p", "1:z:q")
	// A line with fewer fields behind one with them is out of order.
	wantJoinError(t, list("z:1", "x"), nil, 2, 1, ':', api.ErrArg)
}

// P8.3: fields that are alike in several lines of either list: each with each, by a's lines, then by b's.
func TestJoinAlike(t *testing.T) {
	a := list("k:3", "k:1", "k:2", "m:1", "p:2", "p:1")
	b := list("a:0", "k:z", "k:x", "l:0", "p:y", "p:y", "p:x", "q:0")
	wantJoin(t, a, b, 1, 1, ':',
		"k:3:z", "k:3:x", "k:1:z", "k:1:x", "k:2:z", "k:2:x",
		"p:2:y", "p:2:y", "p:2:x", "p:1:y", "p:1:y", "p:1:x")
	wantJoin(t, list("k", "k"), list("k", "k"), 1, 1, ':', "k", "k", "k", "k")
	wantJoin(t, list("1:b:2", "3:b:4"), list("5:6:b", "7:8:b"), 2, 3, ':',
		"b:1:2:5:6", "b:1:2:7:8", "b:3:4:5:6", "b:3:4:7:8")
}

// P8.3: either list out of order, byte by byte, at its first two lines, at its last two, in the midst.
func TestJoinOrder(t *testing.T) {
	fine := list("a:1", "b:1", "b:0", "c:1")
	for _, l := range lists(
		list("b", "a"), list("b", "a", "c"), list("a", "c", "b"), list("a", "c", "b", "d"),
		list("ab", "a"), list("b", "B"), list("\xff", "a"), list("\x80", "\x7f"), list("9", "10"), list("a", ""),
		list("b:a", "a:b"), list("ba:", "b:"),
	) {
		wantJoinError(t, l, fine, 1, 1, ':', api.ErrArg)
		wantJoinError(t, fine, l, 1, 1, ':', api.ErrArg)
		wantJoinError(t, l, l, 1, 1, ':', api.ErrArg)
		wantJoinError(t, l, nil, 1, 1, 0, api.ErrArg)
		wantJoinError(t, nil, l, 1, 1, 0, api.ErrArg)
	}
	for _, l := range lists(
		list("a", "ab"), list("B", "b"), list("a", "\xff"), list("10", "9"), list("", "a"), list("a", "a", "a"),
		list("a:b", "a:a"), list("a:", "a!:"), // byte by byte a! stands ahead of a:, but fields are held against each other
	) {
		wantSlowJoin(t, l, l, 1, 1, ':')
		if _, e := views.Join(l, nil, 1, 1, ':'); e != api.OK {
			t.Errorf("Join(%q, none): %d, want OK", l, e)
		}
	}
	// Each list goes by its own field.
	wantJoin(t, list("2:a", "1:b"), list("x:a", "w:b"), 2, 2, ':', "a:2:x", "b:1:w")
	wantJoinError(t, list("2:a", "1:b"), list("x:a", "w:b"), 1, 2, ':', api.ErrArg)
	wantJoinError(t, list("2:a", "1:b"), list("x:a", "w:b"), 2, 1, ':', api.ErrArg)
}

// P8.3: MaxLines lines may be told, one more not; ErrArg comes ahead of ErrLimit.
func TestJoinLimit(t *testing.T) {
	a, b := slices.Repeat(list("k:a"), 256), slices.Repeat(list("k:b"), 256)
	want := slices.Repeat(list("k:a:b"), api.MaxLines)
	wantJoin(t, a, b, 1, 1, ':', want...)
	wantJoin(t, slices.Repeat(list("k:a"), api.MaxLines), list("k:b"), 1, 1, ':', want...)
	wantJoin(t, list("k:a"), slices.Repeat(list("k:b"), api.MaxLines), 1, 1, ':', want...)
	wantJoin(t, append(slices.Clone(a), "m"), b, 1, 1, ':', want...)
	wantJoinError(t, append(slices.Clone(a), "m"), append(slices.Clone(b), "m"), 1, 1, ':', api.ErrLimit)
	wantJoinError(t, append(slices.Clone(a), "k"), b, 1, 1, ':', api.ErrLimit)
	wantJoinError(t, slices.Repeat(list("k"), api.MaxLines+1), list("k"), 1, 1, ':', api.ErrLimit)
	wantJoinError(t, list("k"), slices.Repeat(list("k"), api.MaxLines+1), 1, 1, ':', api.ErrLimit)
	many := slices.Repeat(list("k"), 2*api.MaxLines)
	wantJoinError(t, many, many, 1, 1, ':', api.ErrLimit)
	wantJoinError(t, append(slices.Clone(many), "a"), many, 1, 1, ':', api.ErrArg)
	wantJoinError(t, many, append(slices.Clone(many), "a"), 1, 1, ':', api.ErrArg)
	wantJoinError(t, many, many, 1, 1001, ':', api.ErrArg)
	// The limit is one of lines that are told, not of lines that are there.
	wantJoin(t, many, append(slices.Repeat(list("a"), 2*api.MaxLines), "z"), 1, 1, ':')
	wantJoin(t, append(slices.Clone(many), "p"), list("p:1"), 1, 1, ':', "p:1")
}

// P8.3: what may not be told takes no room: all of these lines together would have 64 GiB.
func TestJoinRoom(t *testing.T) {
	long := list("k:" + strings.Repeat("x", api.MaxText))
	wantJoinError(t, long, slices.Repeat(list("k"), api.MaxLines+1), 1, 1, ':', api.ErrLimit)
	// A long line of blanks has many partners, and is looked through once.
	wantJoin(t, list(strings.Repeat(" ", api.MaxText)+"k"), slices.Repeat(list("k"), api.MaxLines), 1, 1, 0, slices.Repeat(list("k"), api.MaxLines)...)
	wantJoin(t, slices.Repeat(list("k"), api.MaxLines), list(strings.Repeat(" ", api.MaxText)+"k"), 1, 1, 0, slices.Repeat(list("k"), api.MaxLines)...)
}

// P8.3: many lines, few of them alike.
func TestJoinMany(t *testing.T) {
	var a, b, want []string
	for i := range 100000 {
		if i%2 == 0 {
			a = append(a, fmt.Sprintf("%06d a%d", i, i))
		}
		if i%3 == 0 {
			b = append(b, fmt.Sprintf("b%d %06d", i, i))
		}
		if i%6 == 0 {
			want = append(want, fmt.Sprintf("%06d a%d b%d", i, i, i))
		}
	}
	wantJoin(t, a, b, 1, 2, 0, want...)
}

// P8.3: all pairs of short lists of short lines.
func TestJoinShort(t *testing.T) {
	some := shortLists(shortTexts("a:", 2), 2)
	for _, sep := range []byte{':', 'a'} {
		for _, a := range some {
			for _, b := range some {
				for f := range 4 {
					wantSlowJoin(t, a, b, f, 1, sep)
					wantSlowJoin(t, a, b, 2, f, sep)
				}
			}
		}
	}
	blanks := shortLists(list("", "a", " a", "a \tb", "b a ", "\t"), 2)
	for _, a := range blanks {
		for _, b := range blanks {
			for f := 1; f < 4; f++ {
				wantSlowJoin(t, a, b, f, 1, 0)
				wantSlowJoin(t, a, b, f, 2, 0)
			}
		}
	}
}

// P8.4: the chapter's examples, and sums that POSIX's cksum tells.
func TestSumKnown(t *testing.T) {
	wantSum(t, "", 4294967295)
	wantSum(t, "123456789", 930766865)
	wantSum(t, "a", 1220704766)
	wantSum(t, "\x00", 4215202376)
	wantSum(t, "\n", 3515105045)
	wantSum(t, "\x80", 2041723600)
	wantSum(t, "\xff", 3045181057)
	wantSum(t, "hello\n", 3015617425)
	wantSum(t, everyByte(), 1313719201)
	wantSum(t, everyByte()[128:], 1807783029)
}

// P8.4: how many bytes there are takes one byte, two, three, four.
func TestSumLengths(t *testing.T) {
	for _, c := range []struct {
		text string
		n    int
		want uint32
	}{
		{"x", 255, 3276814060},
		{"x", 256, 3985556000},
		{"x", 257, 2447491134},
		{"x", 65535, 38889017},
		{"x", 65536, 1281127553},
		{"x", 65537, 235747769},
		{"x", api.MaxText, 2477837332},
		{"x", 1 << 24, 3990798175},
		{"\x00", 255, 1309196107},
		{"\x00", 256, 4215202376},
		{"\x00", 65536, 4215202376},
		{"\xff", 255, 1632338736},
		{"\xff", 256, 3565725333},
		{"\xff", 65536, 3867075695},
	} {
		wantSum(t, strings.Repeat(c.text, c.n), c.want)
	}
}

// P8.4: each byte, and texts of many lengths, bit by bit.
func TestSumSlow(t *testing.T) {
	for x := range 256 {
		for _, s := range list(one(x), one(x)+"a", "a"+one(x), "\xff\x00"+one(x)) {
			wantSum(t, s, slowSum(s))
		}
	}
	r := rand.New(rand.NewSource(8))
	for n := range 600 {
		text := make([]byte, n)
		r.Read(text)
		wantSum(t, string(text), slowSum(string(text)))
	}
}

// P8.6: two texts as long, of which just one byte is not the same, have unlike sums.
func TestSumUnlike(t *testing.T) {
	for _, n := range []int{1, 2, 15, 255, 256, 300} {
		text := []byte(strings.Repeat(everyByte(), 2)[:n])
		was := views.Sum(string(text))
		for _, i := range []int{0, 1, n / 2, n - 2, n - 1} {
			if i < 0 || i >= n {
				continue
			}
			seen := map[uint32]int{was: 1}
			for x := 1; x < 256; x++ {
				text[i] ^= byte(x)
				seen[views.Sum(string(text))]++
				text[i] ^= byte(x)
			}
			if len(seen) != 256 {
				t.Errorf("%d bytes, place %d: %d sums for 256 bytes", n, i, len(seen))
			}
		}
	}
	long := []byte(strings.Repeat("toolchest", api.MaxText/9))
	was := views.Sum(string(long))
	for _, i := range []int{0, 65536, len(long) - 1} {
		long[i] ^= 1
		if views.Sum(string(long)) == was {
			t.Errorf("a long text, place %d: the sum is the same", i)
		}
		long[i] ^= 1
	}
}

// P8.5: the chapter's examples.
func TestDumpExamples(t *testing.T) {
	wantDump(t, "AB\n", "0000000 101 102 012\n0000003\n")
	wantDump(t, "", "0000000\n")
}

// P8.5: 1, 15, 16, 17, 32, 33 bytes.
func TestDumpLengths(t *testing.T) {
	row := func(n int) string { return strings.Repeat(" 141", n) + "\n" }
	for n, want := range map[int]string{
		1:  "0000000" + row(1) + "0000001\n",
		15: "0000000" + row(15) + "0000017\n",
		16: "0000000" + row(16) + "0000020\n",
		17: "0000000" + row(16) + "0000020" + row(1) + "0000021\n",
		31: "0000000" + row(16) + "0000020" + row(15) + "0000037\n",
		32: "0000000" + row(16) + "0000020" + row(16) + "0000040\n",
		33: "0000000" + row(16) + "0000020" + row(16) + "0000040" + row(1) + "0000041\n",
	} {
		wantDump(t, strings.Repeat("a", n), want)
	}
	for n := range 300 {
		s := strings.Repeat(everyByte(), 3)[n : 2*n]
		wantDump(t, s, slowDump(s))
	}
}

// P8.5: every byte has three digits.
func TestDumpEachByte(t *testing.T) {
	for x := range 256 {
		digits := string([]byte{byte('0' + x/64), byte('0' + x/8%8), byte('0' + x%8)})
		wantDump(t, one(x), "0000000 "+digits+"\n0000001\n")
		wantDump(t, "\x00"+one(x)+"\xff", "0000000 000 "+digits+" 377\n0000003\n")
	}
	wantDump(t, everyByte(), slowDump(everyByte()))
}

// P8.5: places that take all of seven digits, and more.
func TestDumpLong(t *testing.T) {
	const eight = 1 << 21 // the first place with eight octal digits
	for _, n := range []int{api.MaxText, eight - 16, eight - 1, eight, eight + 1, eight + 17} {
		s := strings.Repeat("0123456789abcdef", n/16+1)[:n]
		got := strings.Split(views.Dump(s), "\n")
		rows := (n + 15) / 16
		if len(got) != rows+2 || got[rows+1] != "" {
			t.Fatalf("%d bytes: %d lines, want %d", n, len(got)-1, rows+1)
		}
		for i, line := range got[:rows] {
			if from := i * 16; i < 2 || i > rows-4 || i%1000 == 0 {
				if want := fmt.Sprintf("%07o", from); !strings.HasPrefix(line, want+" 060") {
					t.Errorf("%d bytes, line %d: %q, want it to begin with %q", n, i, line, want)
				}
			}
		}
		if want := fmt.Sprintf("%07o", n); got[rows] != want {
			t.Errorf("%d bytes: the last line is %q, want %q", n, got[rows], want)
		}
	}
	end := views.Dump(strings.Repeat("a", eight+1))
	if want := " 141\n10000000 141\n10000001\n"; !strings.HasSuffix(end, want) {
		t.Errorf("%q, want it to end with %q", end[len(end)-40:], want)
	}
}

// spoil changes all of a list, its spare room too.
func spoil(l []string) {
	l = l[:cap(l)]
	for i := range l {
		l[i] = "spoilt"
	}
}

// R4: what is handed in is not changed, its spare room neither.
func TestHandedIn(t *testing.T) {
	a, b := list("k:1", "k:2", "m:3", "spare", "room"), list("k:x", "m:y", "n:z", "spare")
	all := lists(a[:3], b[:2], nil, list("spare"), list("room"))
	hadA, hadB := slices.Clone(a), slices.Clone(b)
	hadAll := slices.Clone(all)
	for n := range 4 {
		for _, sep := range []byte{0, ':', 10} {
			for f := range 4 {
				views.Join(a[:n], b[:n], f, 1, sep)
				views.Join(a[:n], b[:n], 1, f, sep)
			}
		}
		views.Join(slices.Repeat(a[:1], 300), slices.Repeat(b[:1], 300), 1, 1, ':')
		for _, seps := range list("", ":", ":-+") {
			views.Paste(all[:n], seps)
		}
	}
	if !slices.Equal(a, hadA) || !slices.Equal(b, hadB) {
		t.Errorf("a list was changed: %q and %q, they were %q and %q", a, b, hadA, hadB)
	}
	for i := range all {
		if len(all[i]) != len(hadAll[i]) || cap(all[i]) != cap(hadAll[i]) || !slices.Equal(all[i], hadAll[i]) {
			t.Errorf("list %d of Paste was changed: %q, it was %q", i, all[i], hadAll[i])
		}
	}
}

// R4: an answer is new memory, its spare room too, and shares none with what was handed in.
func TestAnswersNew(t *testing.T) {
	a, b := list("k:1", "k:2", "m:3", "spare"), list("k:x", "m:y", "spare")
	join := func(a, b []string) []string {
		l, _ := views.Join(a, b, 1, 1, ':')
		return l
	}
	for _, c := range []struct {
		name string
		call func() []string
		want []string
	}{
		{"Paste", func() []string { return views.Paste(lists(a[:3], b[:2]), "-") }, list("k:1-k:x", "k:2-m:y", "m:3-")},
		{"Paste of one list", func() []string { return views.Paste(lists(a[:3]), "-") }, list("k:1", "k:2", "m:3")},
		{"Paste of one and none", func() []string { return views.Paste(lists(nil, a[:3]), "") }, list("k:1", "k:2", "m:3")},
		{"Paste of no lines", func() []string { return views.Paste(lists(a[:0]), "-") }, nil},
		{"Join", func() []string { return join(a[:3], b[:2]) }, list("k:1:x", "k:2:x", "m:3:y")},
		{"Join with fields alone", func() []string { return join(a[:3], list("k", "m")) }, list("k:1", "k:2", "m:3")},
		{"Join of none", func() []string { return join(a[:0], b[:0]) }, nil},
	} {
		first, second := c.call(), c.call()
		spoil(first)
		if third := c.call(); !slices.Equal(second, c.want) || !slices.Equal(third, c.want) {
			t.Errorf("%s: %q and %q behind a change of another answer, want %q", c.name, second, third, c.want)
		}
	}
	if !slices.Equal(a, list("k:1", "k:2", "m:3", "spare")) || !slices.Equal(b, list("k:x", "m:y", "spare")) {
		t.Errorf("an answer shares memory with a list: %q and %q", a, b)
	}
	side, joined := views.Paste(lists(a[:3]), ""), join(a[:3], b[:2])
	spoil(a)
	spoil(b)
	if !slices.Equal(side, list("k:1", "k:2", "m:3")) || !slices.Equal(joined, list("k:1:x", "k:2:x", "m:3:y")) {
		t.Errorf("an answer hangs on a list: %q and %q", side, joined)
	}
}

// R1: any bytes, any numbers, any lists: every call ends, none panics, and what it answers is what the slow ways say.
func TestAny(t *testing.T) {
	r := rand.New(rand.NewSource(8))
	numbers := []int{math.MinInt, -1, 0, 1, 1, 1, 2, 2, 3, 1000, 1001, math.MaxInt}
	bytes := [8]byte{9, 32, 10, 'a', 0, 0xff, 0xc3, ':'}
	text := func(most int) string {
		b := make([]byte, r.Intn(most))
		for i := range b {
			b[i] = bytes[r.Intn(len(bytes))]
		}
		return string(b)
	}
	some := func(n int, sep byte) []string {
		var l []string
		for range r.Intn(6) {
			l = append(l, text(6))
		}
		if n >= 1 && r.Intn(4) > 0 {
			slices.SortStableFunc(l, func(x, y string) int {
				a, _ := slowField(x, n, sep)
				b, _ := slowField(y, n, sep)
				return strings.Compare(a, b)
			})
		}
		return l
	}
	for range 30000 {
		a, b := text(40), text(40)
		if r.Intn(2) == 0 {
			b = a[:r.Intn(len(a)+1)] + b
		}
		at, line, ends := slowCmp(a, b)
		wantCmp(t, a, b, at, line, ends)
		wantSum(t, a, slowSum(a))
		wantDump(t, a, slowDump(a))
		f, g, sep := numbers[r.Intn(len(numbers))], numbers[r.Intn(len(numbers))], bytes[r.Intn(len(bytes))]
		wantSlowJoin(t, some(f, sep), some(g, sep), f, g, sep)
		l := make([][]string, r.Intn(5))
		for i := range l {
			l[i] = some(0, sep)
		}
		seps := text(4)
		wantPaste(t, l, seps, slowPaste(l, seps)...)
	}
}
