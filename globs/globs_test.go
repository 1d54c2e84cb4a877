package globs_test

import (
	"math/rand"
	"regexp"
	"strings"
	"testing"

	"toolchest/api"
	"toolchest/globs"
)

// meaning: the bytes that mean something in a pattern, somewhere.
const meaning = `*?[]\!-`

// one: the text of one byte.
func one(c int) string { return string([]byte{byte(c)}) }

// everyByte: from 0 to 255.
func everyByte() string {
	all := make([]byte, 256)
	for i := range all {
		all[i] = byte(i)
	}
	return string(all)
}

// shortTexts: all texts of at most so many bytes that are made of these ones.
func shortTexts(bytes string, most int) []string {
	out := []string{""}
	for from, n := 0, 0; n < most; n++ {
		to := len(out)
		for _, s := range out[from:to] {
			for i := range len(bytes) {
				out = append(out, s+bytes[i:i+1])
			}
		}
		from = to
	}
	return out
}

// wide: each byte as a rune of its own, as regular expressions go by runes.
func wide(s string) string {
	var b strings.Builder
	for i := range len(s) {
		b.WriteRune(rune(s[i]))
	}
	return b.String()
}

var (
	thingForm  = regexp.MustCompile(`(?s)\A(?:\\(.)|\[(!)(.[^\]]*)\]|\[()([^!][^\]]*)\]|([^\\]))`)
	insideForm = regexp.MustCompile(`(?s)(.)-(.)|(.)`)
)

// slowThing is a thing of a pattern: a star, or the bytes that it matches.
type slowThing struct {
	star bool
	in   map[rune]bool
}

// slowInside: the bytes that the inside of a bracket has.
func slowInside(inside string) map[rune]bool {
	in := map[rune]bool{}
	for _, m := range insideForm.FindAllStringSubmatch(inside, -1) {
		for c := rune(0); c < 256; c++ {
			if string(c) == m[3] || m[3] == "" && string(c) >= m[1] && string(c) <= m[2] {
				in[c] = true
			}
		}
	}
	return in
}

func slowOther(in map[rune]bool) map[rune]bool {
	out := map[rune]bool{}
	for c := rune(0); c < 256; c++ {
		out[c] = !in[c]
	}
	return out
}

// slowRead says the chapter's words in another way, by regular expressions; false: the pattern may not be.
func slowRead(pattern string) ([]slowThing, bool) {
	if len(pattern) > 4096 {
		return nil, false
	}
	var things []slowThing
	for left := wide(pattern); left != ""; {
		m := thingForm.FindStringSubmatch(left)
		if m == nil {
			return nil, false
		}
		left = left[len(m[0]):]
		switch {
		case m[1] != "":
			things = append(things, slowThing{in: map[rune]bool{[]rune(m[1])[0]: true}})
		case m[2] != "":
			things = append(things, slowThing{in: slowOther(slowInside(m[3]))})
		case m[5] != "":
			things = append(things, slowThing{in: slowInside(m[5])})
		case m[6] == "*":
			things = append(things, slowThing{star: true})
		case m[6] == "?":
			things = append(things, slowThing{in: slowOther(nil)})
		default:
			things = append(things, slowThing{in: map[rune]bool{[]rune(m[6])[0]: true}})
		}
	}
	return things, true
}

// slowMatch: from the last thing to the first, which ends of the name are matched by what stands from there on.
func slowMatch(things []slowThing, name string) bool {
	ends := make([]bool, len(name)+1)
	ends[len(name)] = true
	for i := len(things) - 1; i >= 0; i-- {
		next := make([]bool, len(name)+1)
		for j := len(name); j >= 0; j-- {
			switch {
			case things[i].star:
				next[j] = ends[j] || j < len(name) && next[j+1]
			case j < len(name):
				next[j] = ends[j+1] && things[i].in[rune(name[j])]
			}
		}
		ends = next
	}
	return ends[0]
}

func wantCheck(t *testing.T, pattern string, want bool) {
	t.Helper()
	if got := globs.Check(pattern); got != want {
		t.Errorf("Check(%.60q), of %d bytes: %v, want %v", pattern, len(pattern), got, want)
	}
}

func wantMatch(t *testing.T, pattern, name string, want bool) {
	t.Helper()
	if got := globs.Match(pattern, name); got != want {
		t.Errorf("Match(%.60q, %.60q), of %d and %d bytes: %v, want %v", pattern, name, len(pattern), len(name), got, want)
	}
}

// wantAll: the names are matched.
func wantAll(t *testing.T, pattern string, names ...string) {
	t.Helper()
	for _, name := range names {
		wantMatch(t, pattern, name, true)
	}
}

// wantNone: none of the names is matched.
func wantNone(t *testing.T, pattern string, names ...string) {
	t.Helper()
	for _, name := range names {
		wantMatch(t, pattern, name, false)
	}
}

// wantBytes: of the names of one byte, the pattern matches just these ones; and neither the empty name nor two such bytes.
func wantBytes(t *testing.T, pattern, bytes string) {
	t.Helper()
	for x := range 256 {
		wantMatch(t, pattern, one(x), strings.Contains(bytes, one(x)))
		wantMatch(t, pattern, one(x)+one(x), false)
		wantMatch(t, "<"+pattern+">", "<"+one(x)+">", strings.Contains(bytes, one(x)))
	}
	wantMatch(t, pattern, "", false)
}

// without: every byte but these.
func without(bytes string) string {
	out := everyByte()
	for i := range len(bytes) {
		out = strings.ReplaceAll(out, bytes[i:i+1], "")
	}
	return out
}

func wantQuote(t *testing.T, name, want string) {
	t.Helper()
	if got := globs.Quote(name); got != want {
		t.Errorf("Quote(%.60q): %.60q, want %.60q", name, got, want)
	}
}

// P9.1, P9.2, P9.3: the chapter's examples.
func TestExamples(t *testing.T) {
	for _, c := range []struct {
		pattern, name string
		want          bool
	}{
		{`*.go`, "a.go", true}, {`*.go`, ".go", true}, {`*.go`, "a.got", false}, {`a?c`, "abc", true}, {`a?c`, "ac", false}, {"", "", true},
		{`[a-c]x`, "bx", true}, {`[!a-c]x`, "bx", false}, {`[]a]x`, "]x", true}, {`[!]a]x`, "bx", true}, {`[a-]x`, "-x", true}, {`[c-a]x`, "bx", false},
		{`[ab`, "[ab", true}, {`[]x`, "[]x", true}, {`[!]x`, "[!]x", true},
		{`\*`, "*", true}, {`\*`, "a", false}, {`[\]x`, `\x`, true}, {`a\`, "a", false},
	} {
		wantMatch(t, c.pattern, c.name, c.want)
	}
	wantCheck(t, `a\`, false)
	wantCheck(t, `a\\`, true)
	wantQuote(t, "a*b[c]", `a\*b\[c]`)
}

// P9.1: how many bytes there are.
func TestCheckLengths(t *testing.T) {
	wantCheck(t, "", true)
	for _, thing := range []string{"a", "*", "?", "[", "]", "\xff", "\x00"} {
		wantCheck(t, strings.Repeat(thing, api.MaxWord), true)
		wantCheck(t, strings.Repeat(thing, api.MaxWord+1), false)
		wantCheck(t, strings.Repeat(thing, api.MaxText), false)
	}
	wantCheck(t, strings.Repeat(`\\`, api.MaxWord/2), true)
	wantCheck(t, strings.Repeat(`\\`, api.MaxWord/2-1)+`a\`, false)
	wantCheck(t, strings.Repeat(`\\`, api.MaxWord/2)+"a", false)
	wantCheck(t, strings.Repeat(`\\`, api.MaxWord/2+1), false)
	wantCheck(t, strings.Repeat(`[a]`, api.MaxWord/3)+"b", true)
	wantCheck(t, strings.Repeat(`[a]`, api.MaxWord/3)+"bb", false)
	wantCheck(t, "["+strings.Repeat("a", api.MaxWord-2)+"]", true)
	wantCheck(t, "["+strings.Repeat("a", api.MaxWord-1)+"]", false)
}

// P9.1: one, two, three `\` at the end, behind anything.
func TestCheckEnds(t *testing.T) {
	for _, ahead := range []string{"", "a", "*", "?", "]", "[", "[a", "[]", "[!", "[!]", "[a]", "[!a]", `[\]`, `\[`, `\]`, "[a-", "-", "!", "\xff", "ab*[c-d]e"} {
		wantCheck(t, ahead, true)
		wantCheck(t, ahead+`\`, false)
		wantCheck(t, ahead+`\\`, true)
		wantCheck(t, ahead+`\\\`, false)
		wantCheck(t, ahead+`\\\\`, true)
	}
	// Within a bracket a `\` has nothing to do with what stands behind it.
	wantCheck(t, `[\]\`, false)
	wantCheck(t, `[\\]\`, false)
	wantCheck(t, `[\\\]`, true)
	wantCheck(t, `\[\]\`, false)
}

// P9.1: each byte alone, ahead of a `\` and behind one.
func TestCheckEachByte(t *testing.T) {
	for x := range 256 {
		wantCheck(t, one(x), x != '\\')
		wantCheck(t, one(x)+`\`, x == '\\')
		wantCheck(t, `\`+one(x), true)
		wantCheck(t, `\`+one(x)+`\`, false)
	}
}

// P9.2: a pattern that may not be matches nothing.
func TestMatchWrong(t *testing.T) {
	for _, pattern := range []string{`\`, `a\`, `*\`, `\\\`, `[a]\`, `[\`, `[]\`, `?*\`} {
		wantNone(t, pattern, "", "a", `\`, `\\`, `a\`, `\a`, "aa", `[\`, `[]\`)
	}
	for _, thing := range []string{"a", "*", "?"} {
		name := strings.Repeat("a", api.MaxWord)
		wantMatch(t, strings.Repeat(thing, api.MaxWord), name, true)
		wantMatch(t, strings.Repeat(thing, api.MaxWord+1), name, false)
		wantMatch(t, strings.Repeat(thing, api.MaxWord+1), name+"a", false)
	}
}

// P9.2: the empty pattern, the empty name.
func TestMatchEmpty(t *testing.T) {
	wantAll(t, "", "")
	wantNone(t, "", "a", "*", " ", "\x00", "\n")
	wantAll(t, "*", "")
	wantAll(t, "**", "")
	for _, pattern := range []string{"?", "a", `\*`, "[a]", "[!a]", "*?", "?*", "*a*", "[", "]", "[c-a]", "[!c-a]"} {
		wantNone(t, pattern, "")
	}
}

// P9.2: `*` alone, several of them, at the beginning, in the midst, at the end.
func TestMatchStar(t *testing.T) {
	for _, stars := range []string{"*", "**", "***", strings.Repeat("*", 100), strings.Repeat("*", api.MaxWord)} {
		wantAll(t, stars, "", "a", "abc", "*", ".a", "a/b", "\x00\xff\n", strings.Repeat("ab", api.MaxText/2))
	}
	for _, stars := range []string{"*", "**", "***"} {
		wantAll(t, stars+"bc", "bc", "abc", "bcbc", "bbc", "*bc", "/bc", ".bc", "\nbc")
		wantNone(t, stars+"bc", "", "b", "c", "bcx", "bxc", "abcab")
		wantAll(t, "ab"+stars, "ab", "abc", "abab", "ab*", "ab/", "ab\x00")
		wantNone(t, "ab"+stars, "", "a", "b", "xab", "axb")
		wantAll(t, "a"+stars+"b", "ab", "aab", "abb", "axb", "abab", "a/b", "a\nb")
		wantNone(t, "a"+stars+"b", "", "a", "b", "aba", "bab", "ba")
		wantAll(t, stars+"a"+stars, "a", "xa", "ax", "xax", "aaa")
		wantNone(t, stars+"a"+stars, "", "x", "xxx", "A")
		wantAll(t, stars+"?", "a", "ab", "abc")
		wantAll(t, "?"+stars, "a", "ab", "abc")
	}
	wantAll(t, "a*b*c", "abc", "axbybc", "aabbcc", "abcbc", "a*b*c")
	wantNone(t, "a*b*c", "axbyb", "ac", "acb", "abcd", "xabc")
	wantAll(t, "*ab*ab*", "abab", "xabyabz", "aabab")
	wantNone(t, "*ab*ab*", "ab", "aab", "abba", "aba")
	wantAll(t, "*aab", "aab", "aaab", "aabaab", "abaab")
	wantNone(t, "*aab", "ab", "aaba", "abab")
	wantAll(t, "a*a", "aa", "aaa", "aba")
	wantNone(t, "a*a", "a", "ab")
	wantAll(t, "*?*?*", "ab", "abc")
	wantNone(t, "*?*?*", "", "a")
}

// P9.2: `?` is one byte, any one.
func TestMatchOne(t *testing.T) {
	wantBytes(t, "?", everyByte())
	wantNone(t, "??", "", "a", "abc")
	wantAll(t, "??", "ab", "??", "\xc3\xa4")
	wantNone(t, "a?c", "ac", "a", "", "abbc", "abcd", "ab")
	wantAll(t, "a?c", "abc", "a?c", "a/c", "a.c", "a\nc", "a\x00c")
	wantNone(t, "ab?", "ab", "abcd")
	wantNone(t, "?ab", "ab", "cdab")
	wantNone(t, "?", "ä") // of two bytes
}

// P9.2: `\` ahead of each byte that means something, and of any other.
func TestMatchQuoted(t *testing.T) {
	for x := range 256 {
		wantBytes(t, `\`+one(x), one(x))
	}
	wantAll(t, `\*\?\[\]\\\!\-`, meaning)
	wantNone(t, `\*`, "", "a", `\*`, "**", `\`)
	wantNone(t, `\?`, "a", `\?`)
	wantNone(t, `\a`, `\a`, "b")
	wantAll(t, `\[a]`, "[a]")
	wantNone(t, `\[a]`, "a", `\[a]`, "[a")
	wantAll(t, `[a\]b]`, `ab]`, `\b]`) // the `\` is one of the inside
	wantNone(t, `[a\]b]`, "]", "b", "a", "]b]")
	wantAll(t, `\\*`, `\`, `\a`, `\*`)
	wantNone(t, `\\*`, "*", "a", "")
	wantAll(t, `\\\*`, `\*`)
	wantNone(t, `\\\*`, `\a`, "*")
}

// P9.2: each byte that means nothing is itself.
func TestMatchPlain(t *testing.T) {
	for x := range 256 {
		switch x {
		case '*', '?', '\\':
		default:
			wantBytes(t, one(x), one(x))
		}
	}
	all := without(`*?[\`)
	wantAll(t, all, all)
	wantNone(t, all, all[1:], all[:len(all)-1], all+"a", "a"+all)
}

// P9.2: brackets of single bytes, with and without `!`.
func TestMatchBracket(t *testing.T) {
	wantBytes(t, "[a]", "a")
	wantBytes(t, "[abc]", "abc")
	wantBytes(t, "[aba]", "ab")
	wantBytes(t, "[!a]", without("a"))
	wantBytes(t, "[!abc]", without("abc"))
	wantBytes(t, "[*?]", "*?")
	wantBytes(t, `[\]`, `\`)
	wantBytes(t, `[!\]`, without(`\`))
	wantBytes(t, `[\\]`, `\`)
	wantBytes(t, `[\a]`, `\a`)
	wantBytes(t, `[a\]`, `a\`)
	wantBytes(t, "[^a]", "^a")
	wantBytes(t, "[\x00\n\x80\xff]", "\x00\n\x80\xff")
	wantBytes(t, "[!\x00\n\x80\xff]", without("\x00\n\x80\xff"))
	wantBytes(t, "[ä]", "\xc3\xa4") // two bytes, either of them
	for x := range 256 {
		if x != '!' {
			wantBytes(t, "["+one(x)+"]", one(x))
		}
		wantBytes(t, "[!"+one(x)+"]", without(one(x)))
	}
}

// P9.2: a `]` as the first byte of the inside is one of it.
func TestMatchBracketEnd(t *testing.T) {
	wantBytes(t, "[]]", "]")
	wantBytes(t, "[]a]", "]a")
	wantBytes(t, "[!]]", without("]"))
	wantBytes(t, "[!]a]", without("]a"))
	wantBytes(t, "[][]", "][")
	wantBytes(t, "[]!]", "]!")
	wantBytes(t, "[]-]", "]-")
	wantAll(t, "[a]]", "a]")
	wantNone(t, "[a]]", "a", "]", "]]")
	wantAll(t, "[]]]", "]]")
	wantNone(t, "[]]]", "]", "[]]]")
	wantAll(t, "[!a]]", "b]", "]]")
	wantNone(t, "[!a]]", "a]", "b")
}

// P9.2: `!` as the first byte, and elsewhere.
func TestMatchBracketNot(t *testing.T) {
	wantBytes(t, "[a!]", "a!")
	wantBytes(t, "[!!]", without("!"))
	wantBytes(t, "[!a!]", without("a!"))
	wantBytes(t, "[!!!]", without("!"))
	wantAll(t, "[!]", "[!]")
	wantNone(t, "[!]", "", "!", "a", "]", "[]")
	wantAll(t, "[!]x", "[!]x")
	wantNone(t, "[!]x", "!x", "ax", "x")
	wantBytes(t, "[!]x]", without("]x"))
}

// P9.2: ranges, and a `-` that makes none.
func TestMatchRange(t *testing.T) {
	wantBytes(t, "[a-c]", "abc")
	wantBytes(t, "[!a-c]", without("abc"))
	wantBytes(t, "[a-cx-z]", "abcxyz")
	wantBytes(t, "[a-c0]", "abc0")
	wantBytes(t, "[0a-c]", "0abc")
	wantBytes(t, "[-a]", "-a")
	wantBytes(t, "[a-]", "a-")
	wantBytes(t, "[-]", "-")
	wantBytes(t, "[--]", "-")
	wantBytes(t, "[!-]", without("-"))
	wantBytes(t, "[!-a]", without("-a"))
	wantBytes(t, "[!a-]", without("-a"))
	wantBytes(t, "[-a-c]", "-abc")
	wantBytes(t, "[a-c-]", "abc-")
	wantBytes(t, "[a-c-e]", "abc-e") // the second `-` stands behind a range, not behind a byte
	wantBytes(t, "[a-c-e-g]", "abc-efg")
	wantBytes(t, "[a-c--/]", "abc-./")
	wantBytes(t, "[a-a]", "a")
	wantBytes(t, "[!a-a]", without("a"))
	wantBytes(t, "[c-a]", "")
	wantBytes(t, "[b-a]", "")
	wantBytes(t, "[!c-a]", everyByte())
	wantBytes(t, "[c-ax]", "x")
	wantBytes(t, "[\xff-\x00]", "")
}

// P9.2: ranges that begin or end with a byte that means something.
func TestMatchRangeEnds(t *testing.T) {
	wantBytes(t, "[]-a]", "]^_`a")
	wantBytes(t, "[!]-a]", without("]^_`a"))
	wantBytes(t, "[Z-]", "Z-") // such a `]` is the bracket's end
	wantAll(t, "[Z-]]", "Z]", "-]")
	wantNone(t, "[Z-]]", "[]", "]", "Z")
	wantBytes(t, "[+--]", "+,-")
	wantBytes(t, "[--/]", "-./")
	wantBytes(t, "[---]", "-")
	wantBytes(t, "[----]", "-")
	wantBytes(t, "[a--]", "")
	wantBytes(t, "[!--/]", without("-./"))
	wantBytes(t, "[ -!]", " !")
	wantBytes(t, "[!!-#]", without("!\"#"))
	wantBytes(t, "[a!-#]", "a!\"#")
	wantBytes(t, "[!-#]", without("-#")) // a `!` ahead says not, and begins no range
	wantBytes(t, `[Z-\]`, `Z[\`)
	wantBytes(t, `[\-^]`, `\]^`)
	wantBytes(t, `[a-\]`, "")
	wantBytes(t, "[Z-[]", "Z[")
	wantBytes(t, "[[-^]", "[\\]^")
	wantBytes(t, "[*-?]", "*+,-./0123456789:;<=>?")
}

// P9.2: each range, and each that says not.
func TestMatchEachRange(t *testing.T) {
	for x := range 256 {
		for _, y := range []int{0, 1, 45, 92, 94, 127, 128, 200, 254, 255, x - 1, x, x + 1} {
			if x == '!' || y < 0 || y > 255 || y == ']' {
				continue
			}
			for c := range 256 {
				in := x <= c && c <= y
				wantMatch(t, "["+one(x)+"-"+one(y)+"]", one(c), in)
				wantMatch(t, "[!"+one(x)+"-"+one(y)+"]", one(c), !in)
			}
		}
	}
	wantBytes(t, "[\x80-\xff]", everyByte()[128:])
	wantBytes(t, "[!\x80-\xff]", everyByte()[:128])
	wantBytes(t, "[\x00-\xff]", everyByte())
	wantBytes(t, "[!\x00-\xff]", "")
	wantBytes(t, "[\xfe-\xff]", "\xfe\xff")
}

// P9.2: a `[` without its `]` is a byte as any other, and what stands behind it is read as ever.
func TestMatchOpen(t *testing.T) {
	for _, s := range []string{"[", "[[", "[a", "[ab", "[!", "[!a", "[]", "[]a", "[!]", "[!]a", "[a-", "[a-c", "[-", "a[", "a[b", "[[[[", "][", "]"} {
		wantAll(t, s, s)
		wantNone(t, s, "", "a", "b", "!", "-", s+"x", "x"+s, s[1:])
	}
	wantAll(t, "[*", "[", "[a", "[*")
	wantNone(t, "[*", "", "*", "a")
	wantAll(t, "[?", "[a", "[?")
	wantNone(t, "[?", "[", "?", "a")
	wantAll(t, `[\*`, "[*")
	wantNone(t, `[\*`, `[\*`, `[\`, "[a")
	wantAll(t, "[]*", "[]", "[]a")
	wantAll(t, "[!?", "[!a")
	wantAll(t, strings.Repeat("[", api.MaxWord), strings.Repeat("[", api.MaxWord))
}

// P9.2: a `[` within a bracket is one of its bytes.
func TestMatchWithin(t *testing.T) {
	wantBytes(t, "[[]", "[")
	wantBytes(t, "[[a]", "[a")
	wantBytes(t, "[a[]", "a[")
	wantBytes(t, "[![]", without("["))
	wantAll(t, "[[]]", "[]")
	wantNone(t, "[[]]", "[", "]", "[[]]")
	wantAll(t, "[[a]b]", "[b]", "ab]")
	wantNone(t, "[[a]b]", "a", "b", "[ab]")
	wantBytes(t, "[[:a]", "[:a")
	wantAll(t, "[[:alpha:]]", "a]", ":]", "[]")
	wantNone(t, "[[:alpha:]]", "b", "z]", "a")
	wantBytes(t, `[\[]`, `\[`)
}

// P9.2: things one behind the other.
func TestMatchThings(t *testing.T) {
	wantAll(t, "[a-c]*[!0-9]?", "axy", "cxxxx", "b12x9", "c[]")
	wantNone(t, "[a-c]*[!0-9]?", "ax", "dxy", "a99", "abc01")
	wantAll(t, "[ab][cd]", "ac", "ad", "bc", "bd")
	wantNone(t, "[ab][cd]", "a", "c", "ab", "ca", "acd")
	wantAll(t, "*[0-9]", "a1", "1", "12")
	wantNone(t, "*[0-9]", "", "a", "1a")
	wantAll(t, "*.[ch]", "a.c", ".h", "a.b.c")
	wantNone(t, "*.[ch]", "a.o", "a.", ".ch")
	wantAll(t, "*/*", "a/b", "/", "a/b/c")
	wantNone(t, "*/*", "", "ab")
}

// P9.2: as many things as a word may have, and a few more or fewer bytes than there are things.
func TestMatchLengths(t *testing.T) {
	for _, n := range []int{1, 2, 31, 32, 33, 62, 63, 64, 65, 66, 126, 127, 128, 129, 130, 191, 192, 193, 1000, api.MaxWord - 1, api.MaxWord} {
		for by := -2; by <= 2; by++ {
			if n+by < 0 {
				continue
			}
			name := strings.Repeat("a", n+by)
			wantMatch(t, strings.Repeat("a", n), name, by == 0)
			wantMatch(t, strings.Repeat("?", n), name, by == 0)
			wantMatch(t, strings.Repeat("?", n-1)+"*", name, by >= -1)
			wantMatch(t, "*"+strings.Repeat("?", n-1), name, by >= -1)
			wantMatch(t, strings.Repeat("?", n-n/2)+strings.Repeat("*", n/2), name, by == 0 || n > 1 && by >= -(n/2))
		}
		name := strings.Repeat("a", n)
		for _, i := range []int{0, n / 2, n - 1} {
			wantMatch(t, name, name[:i]+"b"+name[i+1:], false)
			wantMatch(t, name[:i]+"b"+name[i+1:], name, false)
			wantMatch(t, name[:i]+"*"+name[i+1:], name, true)
		}
	}
}

// P9.2: many `*`, and a long name that ends too soon, or otherwise.
func TestMatchMany(t *testing.T) {
	long := strings.Repeat("a", api.MaxText)
	stars := strings.Repeat("*a", api.MaxWord/2-1)
	wantNone(t, stars+"*b", long)
	wantAll(t, stars+"*b", long+"b")
	wantNone(t, stars+"*b", long+"ba")
	wantAll(t, stars+"*", long)
	wantAll(t, stars+"*", long[:len(stars)/2])
	wantNone(t, stars+"*", long[:len(stars)/2-1])
	run := strings.Repeat("a", api.MaxWord-3)
	wantNone(t, "*"+run+"b*", long, long[:len(run)-1]+"b", long[:len(run)-1]+"b"+long)
	wantAll(t, "*"+run+"b*", long+"b"+long, run+"b")
	wantNone(t, strings.Repeat("*[!b]?", api.MaxWord/6-1)+"*b", long)
	wantNone(t, strings.Repeat("*?", api.MaxWord/2-1)+"*b", long)
	wantAll(t, strings.Repeat("*?", api.MaxWord/2), long)
}

// P9.1, P9.2: all short patterns, at all short names.
func TestShort(t *testing.T) {
	try := func(patterns, names []string) {
		for _, pattern := range patterns {
			things, ok := slowRead(pattern)
			wantCheck(t, pattern, ok)
			for _, name := range names {
				wantMatch(t, pattern, name, ok && slowMatch(things, name))
			}
		}
	}
	try(shortTexts(`*?\[]!-a`, 4), shortTexts(`*?\[]!-ab`, 2))
	try(shortTexts(`*?ab`, 5), shortTexts("ab", 5))
	var brackets []string
	for _, s := range shortTexts(`]!-\a^`, 4) {
		brackets = append(brackets, "["+s+"]", "[!"+s+"]")
	}
	try(brackets, shortTexts(`]!-\a^_`, 1))
}

// P9.1, P9.2: long patterns, at names that nearly match.
func TestRandom(t *testing.T) {
	r := rand.New(rand.NewSource(9))
	parts := []string{"a", "b", "a", "b", "?", "*", "*", "[ab]", "[!a]", "[!b-z]", `\a`, `\*`, "[", "]", "[]", "[!", "\x80", "[\x80-\xff]", "-"}
	told := 0
	for range 1500 {
		var pattern, name strings.Builder
		for range r.Intn(200) {
			part := parts[r.Intn(len(parts))]
			pattern.WriteString(part)
			for n := r.Intn(3); n > 0 && part == "*"; n-- {
				name.WriteByte("ab\xff"[r.Intn(3)])
			}
			name.WriteString(map[string]string{"a": "a", "b": "b", "?": "a", "[ab]": "b", "[!a]": "b", "[!b-z]": "a", `\a`: "a", `\*`: "*", "[": "[", "]": "]", "[]": "[]", "[!": "[!", "\x80": "\x80", "[\x80-\xff]": "\x80", "-": "-"}[part])
		}
		things, ok := slowRead(pattern.String())
		want := ok && slowMatch(things, name.String())
		wantMatch(t, pattern.String(), name.String(), want)
		wantMatch(t, pattern.String(), name.String()+"a", ok && slowMatch(things, name.String()+"a"))
		if want {
			told++
		}
	}
	if told < 50 {
		t.Errorf("just %d of the names match: the test tells too little", told)
	}
}

// R1: any bytes.
func TestAnyBytes(t *testing.T) {
	r := rand.New(rand.NewSource(1))
	for range 20000 {
		text := make([]byte, r.Intn(24))
		r.Read(text)
		for i := range text {
			if r.Intn(2) == 0 {
				text[i] = meaning[r.Intn(len(meaning))]
			}
		}
		pattern, name := string(text[:len(text)/2]), string(text[len(text)/2:])
		things, ok := slowRead(pattern)
		wantCheck(t, pattern, ok)
		wantMatch(t, pattern, name, ok && slowMatch(things, name))
		wantMatch(t, globs.Quote(name), name, true)
	}
}

// P9.3: the empty name, each byte, names of several bytes that are quoted.
func TestQuote(t *testing.T) {
	wantQuote(t, "", "")
	for x := range 256 {
		want := one(x)
		if strings.Contains(`*?[\`, want) {
			want = `\` + want
		}
		wantQuote(t, one(x), want)
		wantQuote(t, "a"+one(x)+one(x)+"b", "a"+want+want+"b")
	}
	wantQuote(t, "abc", "abc")
	wantQuote(t, `*?[\`, `\*\?\[\\`)
	wantQuote(t, "***", `\*\*\*`)
	wantQuote(t, `\*`, `\\\*`)
	wantQuote(t, `\\`, `\\\\`)
	wantQuote(t, "[!a-c]", `\[!a-c]`)
	wantQuote(t, "ä", "ä")
	wantQuote(t, strings.Repeat("*", api.MaxText), strings.Repeat(`\*`, api.MaxText))
	wantQuote(t, globs.Quote(globs.Quote("*")), `\\\\\\\*`)
}

// P9.4: a quoted name matches itself alone.
func TestQuotedAlone(t *testing.T) {
	names := shortTexts(`*?\[]!-a`, 3)
	for _, name := range names {
		pattern := globs.Quote(name)
		wantCheck(t, pattern, true)
		for _, other := range names {
			wantMatch(t, pattern, other, name == other)
		}
	}
	for x := range 256 {
		wantBytes(t, globs.Quote(one(x)), one(x))
	}
	all := everyByte()
	wantAll(t, globs.Quote(all), all)
	wantNone(t, globs.Quote(all), all[1:], all+all, globs.Quote(all))
}

// P9.4: a quoted name that is just short enough, and one that is not.
func TestQuotedLong(t *testing.T) {
	for _, c := range []struct {
		byte string
		most int
	}{{"a", api.MaxWord}, {"*", api.MaxWord / 2}, {`\`, api.MaxWord / 2}} {
		name := strings.Repeat(c.byte, c.most)
		wantAll(t, globs.Quote(name), name)
		wantNone(t, globs.Quote(name), name[1:], name+c.byte, name[1:]+"b")
		name += c.byte
		wantCheck(t, globs.Quote(name), false)
		wantNone(t, globs.Quote(name), name)
	}
}

// whole: may the pattern be, and is no `[` of it left that a `]` behind the pattern could make a bracket?
func whole(pattern string) bool {
	if !globs.Check(pattern) {
		return false
	}
	ahead, _ := slowRead(pattern)
	behind, ok := slowRead(pattern + "x]")
	return ok && len(behind) == len(ahead)+2
}

// parted: has the name a beginning that the first pattern matches, and a rest that the second one matches?
func parted(p, q, name string) bool {
	for i := range len(name) + 1 {
		if globs.Match(p, name[:i]) && globs.Match(q, name[i:]) {
			return true
		}
	}
	return false
}

// P9.4: two patterns one behind the other.
func TestTwoPatterns(t *testing.T) {
	names := shortTexts("a*]", 3)
	for _, p := range shortTexts(`*?\[]a`, 3) {
		if !whole(p) {
			continue
		}
		for _, q := range shortTexts(`*?\[]a`, 2) {
			for _, name := range names {
				wantMatch(t, p+q, name, parted(p, q, name))
			}
		}
	}
	some := []string{"", "*", "a*", "*b", "[ab]", "[!a]*", "?", `\*`, "a[]b]", "**a**", "b-]", "[a-c]?"}
	for _, p := range some {
		for _, q := range some {
			for _, name := range shortTexts("ab*]-", 4) {
				wantMatch(t, p+q, name, parted(p, q, name))
			}
		}
	}
	// Where the first is not whole, the two make something else.
	wantAll(t, "[a"+"b]", "a", "b")
	wantNone(t, "[a"+"b]", "[ab]")
	wantAll(t, `a\`+"*", "a*")
	wantNone(t, `a\`+"*", "a", "ab")
}

// R5: what is asked twice is answered alike, whatever was asked between.
func TestAgain(t *testing.T) {
	for range 3 {
		wantAll(t, "[a-c]*", "abc", "b")
		wantNone(t, "[!a-c]*", "abc", "b")
		wantNone(t, `[a-c]*\`, "abc", "b")
		wantQuote(t, "[a-c]*", `\[a-c]\*`)
	}
}
