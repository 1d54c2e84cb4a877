package sets_test

import (
	"bytes"
	"math/rand"
	"regexp"
	"slices"
	"strconv"
	"strings"
	"testing"

	"toolchest/api"
	"toolchest/sets"
)

const maxTold = 65536

const (
	digits = "0123456789"
	uppers = "ABCDEFGHIJKLMNOPQRSTUVWXYZ"
	lowers = "abcdefghijklmnopqrstuvwxyz"
	puncts = "!\"#$%&'()*+,-./:;<=>?@[\\]^_`{|}~"
)

// classBytes: the bytes of each class, written out.
var classBytes = map[string]string{
	"alpha":  uppers + lowers,
	"alnum":  digits + uppers + lowers,
	"blank":  "\t ",
	"cntrl":  "\x00\x01\x02\x03\x04\x05\x06\x07\x08\x09\x0a\x0b\x0c\x0d\x0e\x0f\x10\x11\x12\x13\x14\x15\x16\x17\x18\x19\x1a\x1b\x1c\x1d\x1e\x1f\x7f",
	"digit":  digits,
	"graph":  "!\"#$%&'()*+,-./" + digits + ":;<=>?@" + uppers + "[\\]^_`" + lowers + "{|}~",
	"lower":  lowers,
	"print":  " !\"#$%&'()*+,-./" + digits + ":;<=>?@" + uppers + "[\\]^_`" + lowers + "{|}~",
	"punct":  puncts,
	"space":  "\t\n\v\f\r ",
	"upper":  uppers,
	"xdigit": digits + "ABCDEFabcdef",
}

func allBytes() []byte {
	var l []byte
	for i := range 256 {
		l = append(l, byte(i))
	}
	return l
}

func wantParse(t *testing.T, s, want string) {
	t.Helper()
	if l, e := sets.Parse(s); e != api.OK || string(l) != want {
		t.Errorf("Parse(%.50q): %.80q %d, want %.80q", s, l, e, want)
	}
}

func wantParseError(t *testing.T, s string, want api.Errno) {
	t.Helper()
	if l, e := sets.Parse(s); e != want || len(l) != 0 {
		t.Errorf("Parse(%.50q): %.80q %d, want %d and nothing else", s, l, e, want)
	}
}

func wantSwap(t *testing.T, s, from, to, want string) {
	t.Helper()
	if got, e := sets.Swap(s, []byte(from), []byte(to)); e != api.OK || got != want {
		t.Errorf("Swap(%.50q, %.50q, %.50q): %.80q %d, want %.80q", s, from, to, got, e, want)
	}
}

func wantSwapError(t *testing.T, s, from, to string) {
	t.Helper()
	if got, e := sets.Swap(s, []byte(from), []byte(to)); e != api.ErrArg || got != "" {
		t.Errorf("Swap(%.50q, %.50q, %.50q): %.80q %d, want ErrArg and nothing else", s, from, to, got, e)
	}
}

func wantDrop(t *testing.T, s, l, want string) {
	t.Helper()
	if got := sets.Drop(s, []byte(l)); got != want {
		t.Errorf("Drop(%.50q, %.50q): %.80q, want %.80q", s, l, got, want)
	}
}

func wantSqueeze(t *testing.T, s, l, want string) {
	t.Helper()
	if got := sets.Squeeze(s, []byte(l)); got != want {
		t.Errorf("Squeeze(%.50q, %.50q): %.80q, want %.80q", s, l, got, want)
	}
}

// shortTexts: all texts of at most so many of these parts.
func shortTexts(parts []string, most int) []string {
	out := []string{""}
	for from, n := 0, 0; n < most; n++ {
		to := len(out)
		for _, s := range out[from:to] {
			for _, part := range parts {
				out = append(out, s+part)
			}
		}
		from = to
	}
	return out
}

var (
	classForm  = regexp.MustCompile(`\A\[:([a-z]*):\]`)
	singleForm = regexp.MustCompile(`(?s)\A(?:[^\\]|\\[\\nt]|\\[0-7]{1,3})`)
)

// slowSingle: the single at the beginning of s, and how long its text is; 0: there is none.
func slowSingle(s string) (int, int) {
	text := singleForm.FindString(s)
	switch text {
	case "":
		return 0, 0
	case `\\`:
		return 92, 2
	case `\n`:
		return 10, 2
	case `\t`:
		return 9, 2
	}
	if text[0] != '\\' {
		return int(text[0]), 1
	}
	n, err := strconv.ParseUint(text[1:], 8, 8)
	if err != nil {
		return 0, 0
	}
	return int(n), len(text)
}

// slowParse says the chapter's words in another way, by the library; s is ASCII; false: s is no set's text.
func slowParse(s string) (string, bool) {
	var b strings.Builder
	for s != "" {
		if m := classForm.FindStringSubmatch(s); m != nil {
			of, known := classBytes[m[1]]
			if !known {
				return "", false
			}
			b.WriteString(of)
			s = s[len(m[0]):]
			continue
		}
		first, n := slowSingle(s)
		if n == 0 {
			return "", false
		}
		s = s[n:]
		last := first
		if len(s) > 1 && s[0] == '-' && !classForm.MatchString(s[1:]) {
			if last, n = slowSingle(s[1:]); n == 0 || last < first {
				return "", false
			}
			s = s[1+n:]
		}
		for ; first <= last; first++ {
			b.WriteByte(byte(first))
		}
	}
	return b.String(), true
}

func holdAgainstSlowParse(t *testing.T, s string) {
	t.Helper()
	if want, ok := slowParse(s); ok {
		wantParse(t, s, want)
	} else {
		wantParseError(t, s, api.ErrForm)
	}
}

// P4.1: the chapter's examples.
func TestParseExamples(t *testing.T) {
	for s, want := range map[string]string{
		"a-e": "abcde", "a-": "a-", "-a": "-a", "a-c-e": "abc-e", "[:digit:]x": "0123456789x",
		`\n\t\\`: "\n\t\\", `\1018`: "A8", `\0`: "\x00",
		"[:alpha": "[:alpha", "a-[:digit:]": "a-0123456789", "": "", "--/": "-./",
	} {
		wantParse(t, s, want)
	}
	for _, s := range []string{`\101\8`, "e-a", "[:no:]", `\x`, `\`, `\400`, "[::]"} {
		wantParseError(t, s, api.ErrForm)
	}
}

// P4.1: each class has its bytes, rising, wherever it stands.
func TestParseClasses(t *testing.T) {
	for name, want := range classBytes {
		text := "[:" + name + ":]"
		wantParse(t, text, want)
		wantParse(t, "x"+text+"y", "x"+want+"y")
		wantParse(t, text+text, want+want)
		wantParse(t, "x-"+text, "x-"+want)
		wantParse(t, text+"-x", want+"-x")
		wantParse(t, text+"-"+text, want+"-"+want)
		wantParse(t, "--"+text, "--"+want)
		wantParse(t, text+"--/", want+"-./")
		wantParse(t, "a-c-"+text, "abc-"+want)
	}
	if len(classBytes) != 12 {
		t.Errorf("%d classes, want 12", len(classBytes))
	}
}

// P4.1: a class whose name is none may not be, wherever it stands.
func TestParseNoClass(t *testing.T) {
	for _, name := range []string{"", "a", "z", "no", "az", "size", "digi", "digits", "alph", "ascii", "word", "xdigi", "digitdigit", strings.Repeat("a", 5000)} {
		text := "[:" + name + ":]"
		for _, s := range []string{text, "x" + text, text + "x", "x-" + text, text + "-x", "[:digit:]" + text, text + "[:digit:]", "[" + text, "[:" + text} {
			wantParseError(t, s, api.ErrForm)
		}
	}
}

// P4.1: what is not the whole text of a class is singles and ranges.
func TestParseNearlyClass(t *testing.T) {
	for s, want := range map[string]string{
		"[": "[", "[:": "[:", "[:a": "[:a", "[:digit": "[:digit", "[:digit:": "[:digit:", "[:digit]": "[:digit]", "[:digit:x]": "[:digit:x]",
		"[:digit::]": "[:digit::]", "[:digit :]": "[:digit :]", "[: digit:]": "[: digit:]", "[:Digit:]": "[:Digit:]", "[:DIGIT:]": "[:DIGIT:]",
		"[:d1git:]": "[:d1git:]", "[digit]": "[digit]", "[.a.]": "[.a.]", "[=a=]": "[=a=]", "[:]": "[:]", "[:`:]": "[:`:]", "[:{:]": "[:{:]",
		"[:a-c:]": "[:abc:]", "a-[": "", "Z-[": "Z[", "Z-[:": "Z[:", "Z-[:digit:": "Z[:digit:", "[-]": "[\\]", "[:-<": "[:;<",
		"[[:digit:]]": "[0123456789]", "[:[:digit:]": "[:0123456789", "[:digit:]:]": "0123456789:]", `\133:digit:]`: "[:digit:]", "Z-\\133:digit:]": "Z[:digit:]",
	} {
		if want == "" {
			wantParseError(t, s, api.ErrForm)
			continue
		}
		wantParse(t, s, want)
	}
}

// P4.1: every byte but the backslash is a single by itself, and in a range of one.
func TestParseEachByte(t *testing.T) {
	for _, c := range allBytes() {
		one := string([]byte{c})
		if c == '\\' {
			wantParseError(t, one, api.ErrForm)
			continue
		}
		wantParse(t, one, one)
		wantParse(t, one+one, one+one)
		if c != '-' {
			wantParse(t, one+"-"+one, one)
			wantParse(t, one+"-", one+"-")
			wantParse(t, "-"+one, "-"+one)
		}
	}
	wantParse(t, "-", "-")
	wantParse(t, "--", "--")
	wantParse(t, "---", "-")
	wantParse(t, "----", "--")
}

// P4.1: each pair of bytes makes a range, rising, if it may be, however its ends are told.
func TestParseEachRange(t *testing.T) {
	all := string(allBytes())
	octal := func(c int) string { return `\` + strconv.FormatInt(int64(c), 8) }
	for first := range 256 {
		for last := range 256 {
			s := octal(first) + "-" + octal(last)
			if last < first {
				wantParseError(t, s, api.ErrForm)
				continue
			}
			wantParse(t, s, all[first:last+1])
			if first != '\\' && last != '\\' {
				wantParse(t, all[first:first+1]+"-"+all[last:last+1], all[first:last+1])
			}
		}
	}
}

// P4.1: octal singles of one, two and three digits, as many as can be, up to 255.
func TestParseOctal(t *testing.T) {
	for n := range 512 {
		text := strconv.FormatInt(int64(n), 8)
		for len(text) < 4 {
			if n > 255 {
				wantParseError(t, `\`+text, api.ErrForm)
				wantParseError(t, `\`+text+"x", api.ErrForm)
				wantParseError(t, `\0-\`+text, api.ErrForm)
			} else {
				one := string([]byte{byte(n)})
				wantParse(t, `\`+text, one)
				wantParse(t, `\`+text+"8", one+"8")
				wantParse(t, `\`+text+"x", one+"x")
				wantParse(t, `\`+text+`\`+text, one+one)
			}
			text = "0" + text
		}
	}
	for s, want := range map[string]string{
		`\377`: "\xff", `\0377`: "\x1f7", `\0000`: "\x000", `\1234`: "S4", `\18`: "\x018", `\129`: "\n9", `\7a`: "\aa", `\00`: "\x00", `\000`: "\x00",
	} {
		wantParse(t, s, want)
	}
	for _, s := range []string{`\400`, `\777`, `\4000`, `\477`} {
		wantParseError(t, s, api.ErrForm)
	}
}

// P4.1: a backslash begins a single, or the text may not be; each byte behind one.
func TestParseBackslash(t *testing.T) {
	for _, c := range allBytes() {
		s := string([]byte{'\\', c})
		want := map[byte]string{'\\': "\\", 'n': "\n", 't': "\t"}[c]
		if c >= '0' && c <= '7' {
			want = string([]byte{c - '0'})
		}
		if want == "" {
			for _, wrong := range []string{s, "a" + s, s + "a", "a-" + s, s + "-a", `\n` + s} {
				wantParseError(t, wrong, api.ErrForm)
			}
			continue
		}
		wantParse(t, s, want)
		wantParse(t, s+s, want+want)
		wantParse(t, s+"-", want+"-")
		wantParse(t, "-"+s, "-"+want)
	}
	for _, s := range []string{`\`, `a\`, `a-\`, `\\\`, `\n\`, `[:digit:]\`, `a-c\`, `\1\`, `\-a`, `\[:digit:]`} {
		wantParseError(t, s, api.ErrForm)
	}
	wantParse(t, `\\n`, `\n`)
	wantParse(t, `\\\n`, "\\\n")
	wantParse(t, `\t-\n`, "\t\n")
	wantParse(t, `[-\\`, "[\\")
	wantParse(t, `\\-]`, "\\]")
	wantParseError(t, `\n-\t`, api.ErrForm)
}

// P4.1: where a - is a single, and where it makes a range.
func TestParseDash(t *testing.T) {
	for s, want := range map[string]string{
		"-": "-", "-a": "-a", "a-": "a-", "a-a": "a", "a-b": "ab", "a-b-": "ab-", "a-b-c": "ab-c", "a-b-c-d": "ab-cd", "a-b--/": "ab-./",
		"-a-c": "-abc", "a-c-": "abc-", "+--": "+,-", "+--a": "+,-a", "--": "--", "---": "-", "--a": "-./0123456789:;<=>?@" + uppers + "[\\]^_`a",
		"[:digit:]-": digits + "-", "[:digit:]-z": digits + "-z", "[:digit:]--": digits + "--", "-[:digit:]": "-" + digits, "--[:digit:]": "--" + digits,
		"---[:digit:]": "-" + digits, "a-b-[:digit:]": "ab-" + digits, `\101-C`: "ABC", `A-\103`: "ABC", `\101-\103-`: "ABC-", `\55-/`: "-./", `a\55c`: "a-c",
	} {
		wantParse(t, s, want)
	}
	for _, s := range []string{"b-a", "a--", "a--z", "x-b-a", "a-b-c-b", "[:digit:]z-a", "b-a[:digit:]", "z-a-", "-b-a", "\xff-\xfe", "\x01-\x00", `\377-\0`, `a-\0`} {
		wantParseError(t, s, api.ErrForm)
	}
}

// P4.1: all short texts, of bytes and of parts, held against the slow reading.
func TestParseShortTexts(t *testing.T) {
	for _, s := range shortTexts(strings.Split(`\-[:]an138`, ""), 5) {
		holdAgainstSlowParse(t, s)
	}
	parts := []string{"[:digit:]", "[:punct:]", "[:no:]", "[::]", "[:", ":]", "-", "--", "a", "c", `\`, `\n`, `\0`, `\377`, `\40`, "8"}
	for _, s := range shortTexts(parts, 4) {
		holdAgainstSlowParse(t, s)
	}
}

// P4.1: long texts held against the slow reading, by a fixed seed.
func TestParseLongTexts(t *testing.T) {
	r := rand.New(rand.NewSource(4))
	parts := []string{"[:alpha:]", "[:blank:]", "[:space:]", "[:", "a-z", "0-9", "-", "q", `\\`, `\t`, `\12`, `\177`, " ", "[", "]", ":"}
	for range 2000 {
		var b strings.Builder
		for range r.Intn(60) {
			b.WriteString(parts[r.Intn(len(parts))])
		}
		holdAgainstSlowParse(t, b.String())
	}
}

// P4.1: 65536 bytes that are told, and one more, by singles, ranges and classes.
func TestParseLimit(t *testing.T) {
	whole := strings.Repeat(`\0-\377`, maxTold/256)
	told := strings.Repeat(string(allBytes()), maxTold/256)
	wantParse(t, whole, told)
	wantParse(t, strings.Repeat("x", maxTold), strings.Repeat("x", maxTold))
	wantParse(t, strings.Repeat(`\n`, maxTold), strings.Repeat("\n", maxTold))
	wantParse(t, strings.Repeat("[:blank:]", maxTold/2), strings.Repeat("\t ", maxTold/2))
	wantParse(t, strings.Repeat("x", maxTold-10)+"[:digit:]", strings.Repeat("x", maxTold-10)+digits)
	for _, s := range []string{
		whole + "x", "x" + whole, whole + `\0`, whole + "-", whole + "a-c", whole + "[:digit:]", whole + whole, whole + whole + "x",
		strings.Repeat("x", maxTold+1), strings.Repeat("x", 3*maxTold), strings.Repeat(`\n`, maxTold+1), strings.Repeat("[:blank:]", maxTold/2+1),
		strings.Repeat("x", maxTold-9) + "[:digit:]", strings.Repeat("x", maxTold-1) + "a-b", whole + strings.Repeat("[:print:]", 1000),
	} {
		wantParseError(t, s, api.ErrLimit)
	}
}

// P4.1, R2: a text that may not be counts for more than one that tells too much, wherever the fault stands.
func TestParseFirstError(t *testing.T) {
	whole := strings.Repeat(`\0-\377`, maxTold/256)
	for _, wrong := range []string{`\`, `\x`, `\400`, "b-a", "[:no:]", "[::]", `a-\`} {
		for _, s := range []string{whole + wrong, whole + "x" + wrong, whole + whole + wrong, strings.Repeat("x", 5*maxTold) + wrong, whole + "x[:digit:]" + wrong} {
			wantParseError(t, s, api.ErrForm)
		}
		if wrong[len(wrong)-1] != '\\' {
			wantParseError(t, wrong+whole+"x", api.ErrForm)
		}
	}
}

// P4.2: all bytes that are not in the list, rising, however the list stands.
func TestRest(t *testing.T) {
	all := allBytes()
	if got := sets.Rest(nil); !bytes.Equal(got, all) {
		t.Errorf("Rest of nil: %q", got)
	}
	if got := sets.Rest([]byte{}); !bytes.Equal(got, all) {
		t.Errorf("Rest of none: %q", got)
	}
	if got := sets.Rest(all); len(got) != 0 {
		t.Errorf("Rest of all: %q", got)
	}
	if got := sets.Rest(append(allBytes(), all...)); len(got) != 0 {
		t.Errorf("Rest of all twice: %q", got)
	}
	for i, c := range all {
		others := slices.Delete(allBytes(), i, i+1)
		if got := sets.Rest(others); string(got) != string([]byte{c}) { // the chapter's example, for each byte
			t.Errorf("Rest of all but %d: %v", c, got)
		}
		if got := sets.Rest([]byte{c, c, c}); !bytes.Equal(got, others) {
			t.Errorf("Rest of %d thrice: %v", c, got)
		}
	}
	falling := []byte("zzyyxa")
	want := slices.DeleteFunc(allBytes(), func(c byte) bool { return bytes.IndexByte(falling, c) >= 0 })
	if got := sets.Rest(falling); !bytes.Equal(got, want) {
		t.Errorf("Rest of %q: %q", falling, got)
	}
}

// P4.3: the chapter's examples.
func TestChangeExamples(t *testing.T) {
	wantSwap(t, "hello", "el", "ip", "hippo")
	wantSwap(t, "abc", "abc", "x", "xxx")
	wantSwap(t, "aab", "aa", "xy", "xxb")
	wantSwapError(t, "a", "a", "")
	wantSwap(t, "a", "", "", "a")
	wantDrop(t, "hello", "l", "heo")
	wantSqueeze(t, "aabbcca", "ac", "abbca")
	wantSqueeze(t, "aabb", "", "aabb")
}

// P4.3: Swap with lists of all lengths, and doubles.
func TestSwap(t *testing.T) {
	all := string(allBytes())
	for _, c := range []struct{ s, from, to, want string }{
		{"", "", "", ""}, {"", "a", "b", ""}, {"abc", "", "xyz", "abc"}, {"abc", "", "x", "abc"}, {"abc", "d", "x", "abc"},
		{"abcd", "abc", "xy", "xyyd"}, {"abcd", "dcba", "xy", "yyyx"}, {"ab", "a", "xyz", "xb"}, {"abc", "abc", "xyz", "xyz"}, {"abc", "abc", "bca", "bca"},
		{"ab", "ab", "ba", "ba"}, {"abab", "aba", "xyz", "xyxy"}, {"ab", "aab", "xyz", "xz"}, {"ab", "aab", "xy", "xy"}, {"a", "baa", "xy", "y"}, {"ab", "ab", "aa", "aa"},
		{"a", "ba", "x", "x"}, {"\x00\xff", "\x00\xff", "\xff\x00", "\xff\x00"}, {"\xc3\xa4", "\xa4", "\xb6", "\xc3\xb6"}, {"a\nb", "\n", " ", "a b"},
		{all, all, "x", strings.Repeat("x", 256)}, {all, all, all, all}, {all, "", "", all}, {all, all + all, all + "x", all},
		{"az", strings.Repeat("a", 300) + "z", strings.Repeat("x", 300), "xx"}, {"az", strings.Repeat("a", 300) + "z", strings.Repeat("x", 300) + "y", "xy"},
	} {
		wantSwap(t, c.s, c.from, c.to, c.want)
	}
	for _, s := range []string{"", "a", "b", all} {
		wantSwapError(t, s, "a", "")
		wantSwapError(t, s, all, "")
		if got, e := sets.Swap(s, []byte("a"), nil); e != api.ErrArg || got != "" {
			t.Errorf("Swap(%q, a, nil): %q %d", s, got, e)
		}
		if got, e := sets.Swap(s, nil, nil); e != api.OK || got != s {
			t.Errorf("Swap(%q, nil, nil): %q %d", s, got, e)
		}
	}
}

// slowSwap, slowDrop and slowSqueeze say the chapter's words in another way, by the library.
func slowSwap(s, from, to string) string {
	var b strings.Builder
	for _, c := range []byte(s) {
		at := strings.IndexByte(from, c)
		switch {
		case at < 0:
			b.WriteByte(c)
		case at < len(to):
			b.WriteByte(to[at])
		default:
			b.WriteByte(to[len(to)-1])
		}
	}
	return b.String()
}

func slowDrop(s, l string) string {
	for _, c := range []byte(l) {
		s = string(bytes.ReplaceAll([]byte(s), []byte{c}, nil))
	}
	return s
}

func slowSqueeze(s, l string) string {
	for _, c := range []byte(l) {
		one := string([]byte{c})
		for strings.Contains(s, one+one) {
			s = strings.ReplaceAll(s, one+one, one)
		}
	}
	return s
}

// P4.3, P4.4: all short texts with all short lists.
func TestChangeShortTexts(t *testing.T) {
	letters := []string{"a", "b", "c"}
	texts, lists := shortTexts(letters, 5), shortTexts(letters, 3)
	for _, s := range texts {
		for _, l := range lists {
			wantDrop(t, s, l, slowDrop(s, l))
			wantSqueeze(t, s, l, slowSqueeze(s, l))
			dropped, squeezed := sets.Drop(s, []byte(l)), sets.Squeeze(s, []byte(l))
			wantDrop(t, dropped, l, dropped)
			wantSqueeze(t, squeezed, l, squeezed)
		}
	}
	for _, s := range shortTexts(letters, 3) {
		for _, from := range lists {
			for _, to := range shortTexts([]string{"b", "x", "y"}, 3) {
				if to == "" && from != "" {
					wantSwapError(t, s, from, to)
					continue
				}
				wantSwap(t, s, from, to, slowSwap(s, from, to))
			}
		}
	}
}

// P4.3: Drop and Squeeze with no bytes, with all, with doubles, with each byte.
func TestDropSqueeze(t *testing.T) {
	all := string(allBytes())
	for _, l := range []string{"", "a", all} {
		wantDrop(t, "", l, "")
		wantSqueeze(t, "", l, "")
	}
	wantDrop(t, all+all, "", all+all)
	wantDrop(t, all+all, all, "")
	wantDrop(t, "hello", "llll", "heo")
	wantDrop(t, "hello", "xyz", "hello")
	wantDrop(t, "abcabc", "ca", "bb")
	wantSqueeze(t, "aaabbbccc", "", "aaabbbccc")
	wantSqueeze(t, "aaabbbccc", all, "abc")
	wantSqueeze(t, "aaabbbccc", "bbb", "aaabccc")
	wantSqueeze(t, "abababab", "ab", "abababab")
	wantSqueeze(t, "aabaabaa", "a", "ababa")
	wantSqueeze(t, "a\n\n\nb\n\n", "\n", "a\nb\n")
	for _, c := range allBytes() {
		one := string([]byte{c})
		other := string([]byte{c + 1})
		s := one + one + other + other + one + one + one
		wantDrop(t, s, one, other+other)
		wantDrop(t, s, other, one+one+one+one+one)
		wantSqueeze(t, s, one, one+other+other+one)
		wantSqueeze(t, s, other, one+one+other+one+one+one)
		wantSqueeze(t, s, one+other, one+other+one)
	}
}

// P4.3: a long text goes through in good time.
func TestChangeLongText(t *testing.T) {
	s := strings.Repeat("aab", 1<<20)
	wantSwap(t, s, "ab", "xy", strings.Repeat("xxy", 1<<20))
	wantDrop(t, s, "a", strings.Repeat("b", 1<<20))
	wantSqueeze(t, s, "ab", strings.Repeat("ab", 1<<20))
	wantParseError(t, strings.Repeat("[:a", 1<<20), api.ErrLimit)
	wantParseError(t, "[:"+strings.Repeat("a", 1<<20)+":]", api.ErrForm)
}

// P4.4: what follows, for texts and lists by a fixed seed.
func TestWhatFollows(t *testing.T) {
	r := rand.New(rand.NewSource(44))
	some := func(most int) []byte {
		l := make([]byte, r.Intn(most))
		for i := range l {
			l[i] = byte(r.Intn(256))
		}
		return l
	}
	for range 500 {
		l, to, s := some(300), some(300), string(some(2000))
		rest := sets.Rest(l)
		for _, c := range allBytes() {
			if bytes.Contains(l, []byte{c}) == bytes.Contains(rest, []byte{c}) {
				t.Fatalf("byte %d is in %v and in its Rest %v, or in none", c, l, rest)
			}
		}
		if !slices.IsSortedFunc(rest, func(a, b byte) int { return int(a) - int(b) }) {
			t.Fatalf("Rest of %v: %v", l, rest)
		}
		if swapped, e := sets.Swap(s, l, to); e == api.OK && len(swapped) != len(s) {
			t.Fatalf("Swap of %d bytes tells %d", len(s), len(swapped))
		} else if e != api.OK && (len(to) > 0 || len(l) == 0) {
			t.Fatalf("Swap(%q, %q, %q): %d", s, l, to, e)
		}
		dropped, squeezed := sets.Drop(s, l), sets.Squeeze(s, l)
		wantDrop(t, dropped, string(l), dropped)
		wantSqueeze(t, squeezed, string(l), squeezed)
		if len(dropped)+len(sets.Drop(s, rest)) != len(s) {
			t.Fatalf("Drop by %v and by its Rest tell not all of %q", l, s)
		}
	}
}

// R4: lists that are handed in, their spare room too, stay as they were.
func TestNothingChanged(t *testing.T) {
	backing := []byte("elxxabcdefgh")
	before := bytes.Clone(backing)
	l, to := backing[:2:4], backing[4:6:8]
	sets.Rest(l)
	sets.Rest(backing[:0])
	sets.Swap("hello", l, to)
	sets.Swap("hello", l, l)
	sets.Swap("hello", backing[:0], backing[:0])
	sets.Swap("hello", backing, backing[:1])
	sets.Drop("hello", l)
	sets.Squeeze("hello", l)
	if !bytes.Equal(backing, before) {
		t.Errorf("%q was handed in, and is %q", before, backing)
	}
}

// R4, R5: an answer is new memory, its spare room too, and a later call tells the same.
func TestAnswersAreNew(t *testing.T) {
	for _, s := range []string{"a-e", "[:alpha:]", "x", ""} {
		first, _ := sets.Parse(s)
		want := string(first)
		spoil(first)
		second, _ := sets.Parse(s)
		if string(second) != want {
			t.Errorf("Parse(%q) again: %q, want %q", s, second, want)
		}
		spoil(first)
		if string(second) != want {
			t.Errorf("Parse(%q): two answers share memory", s)
		}
	}
	l := []byte("ab")
	first := sets.Rest(l)
	second := sets.Rest(l)
	want := string(first)
	spoil(first)
	if string(second) != want || string(l) != "ab" || string(sets.Rest(l)) != want {
		t.Errorf("Rest: answers share memory")
	}
}

// spoil overwrites a list and its spare room.
func spoil(l []byte) {
	l = l[:cap(l)]
	for i := range l {
		l[i] = '#'
	}
}
