package modes_test

import (
	"fmt"
	"math"
	"math/rand"
	"regexp"
	"slices"
	"strconv"
	"strings"
	"testing"

	"toolchest/api"
	"toolchest/modes"
)

// one: the text of one byte.
func one(c int) string { return string([]byte{byte(c)}) }

// shortTexts: all texts of at most so many bytes that are made of these ones.
func shortTexts(bytes string, most int) []string {
	out := []string{""}
	for from, n := 0, 0; n < most; n++ {
		to := len(out)
		for _, s := range out[from:to] {
			for i := range len(bytes) {
				out = append(out, s+bytes[i:i+1])
			}
		}
		from = to
	}
	return out
}

// change: who, Op, bits; the letter that is copied, and an X, may stand behind them.
func change(who int, op byte, bits int, more ...byte) api.Change {
	c := api.Change{Who: who, Op: op, Bits: bits}
	for _, m := range more {
		if m == 'X' {
			c.Dirs = true
		} else {
			c.Copy = m
		}
	}
	return c
}

func changes(l ...api.Change) []api.Change { return l }

// octal: the changes of an octal text with these digits.
func octal(u, g, o int) []api.Change {
	return changes(change(4, '=', u), change(2, '=', g), change(1, '=', o))
}

func wantParse(t *testing.T, s string, want ...api.Change) {
	t.Helper()
	if l, e := modes.Parse(s); e != api.OK || !slices.Equal(l, want) {
		t.Errorf("Parse(%.60q), of %d bytes: %.200s %d, want %.200s", s, len(s), fmt.Sprint(l), e, fmt.Sprint(want))
	}
}

func wantError(t *testing.T, want api.Errno, texts ...string) {
	t.Helper()
	for _, s := range texts {
		if l, e := modes.Parse(s); e != want || len(l) != 0 {
			t.Errorf("Parse(%.60q), of %d bytes: %.200s %d, want %d and nothing else", s, len(s), fmt.Sprint(l), e, want)
		}
	}
}

// parsed: the changes of a text that may be.
func parsed(t *testing.T, s string) []api.Change {
	t.Helper()
	l, e := modes.Parse(s)
	if e != api.OK {
		t.Fatalf("Parse(%q): %d", s, e)
	}
	return l
}

func wantApply(t *testing.T, l []api.Change, mode, mask int, dir bool, want int) {
	t.Helper()
	if got := modes.Apply(l, mode, mask, dir); got != want {
		t.Errorf("Apply(%.200s, %o, %o, %v): %o, want %o", fmt.Sprint(l), mode, mask, dir, got, want)
	}
}

// wantDone: what a text of changes makes of a mode.
func wantDone(t *testing.T, s string, mode, mask int, dir bool, want int) {
	t.Helper()
	if got := modes.Apply(parsed(t, s), mode, mask, dir); got != want {
		t.Errorf("Apply(%s, %o, %o, %v): %o, want %o", s, mode, mask, dir, got, want)
	}
}

func wantText(t *testing.T, k api.NodeKind, mode int, want string) {
	t.Helper()
	if got := modes.Text(k, mode); got != want {
		t.Errorf("Text(%d, %o): %q, want %q", k, mode, got, want)
	}
}

func wantOctal(t *testing.T, mode int, want string) {
	t.Helper()
	if got := modes.Octal(mode); got != want {
		t.Errorf("Octal(%o): %q, want %q", mode, got, want)
	}
}

func wantRead(t *testing.T, s string, want int) {
	t.Helper()
	if got, ok := modes.Read(s); got != want || !ok {
		t.Errorf("Read(%q): %o %v, want %o", s, got, ok, want)
	}
}

func wantNoMode(t *testing.T, texts ...string) {
	t.Helper()
	for _, s := range texts {
		if got, ok := modes.Read(s); got != 0 || ok {
			t.Errorf("Read(%.60q), of %d bytes: %o %v, want 0 and false", s, len(s), got, ok)
		}
	}
}

// P10.1, P10.2, P10.3, P10.4: the chapter's examples.
func TestExamples(t *testing.T) {
	wantParse(t, "640", octal(6, 4, 0)...)
	wantParse(t, "u+rw,go=", change(4, '+', 6), change(3, '=', 0))
	wantParse(t, "a-x+X", change(7, '-', 1), change(7, '+', 0, 'X'))
	wantError(t, api.ErrForm, "+t")
	wantParse(t, "=u", change(0, '=', 0, 'u'))
	wantError(t, api.ErrForm, "", "u", "1000", "8", "00777", "u+r,", "g=ur")

	wantDone(t, "u+x", 0o644, 0, false, 0o744)
	wantDone(t, "go=u", 0o640, 0, false, 0o666)
	wantDone(t, "a+X", 0o644, 0, false, 0o644)
	wantDone(t, "a+X", 0o644, 0, true, 0o755)
	wantDone(t, "a+X", 0o744, 0, false, 0o755)
	wantDone(t, "+w", 0o444, 0o22, false, 0o644)
	wantDone(t, "=", 0o777, 0o22, false, 0o22)
	wantDone(t, "a=", 0o777, 0o22, false, 0)

	wantText(t, api.NoFile, 0o640, "-rw-r-----")
	wantText(t, api.NoDir, 0o755, "drwxr-xr-x")
	wantText(t, api.NoLink, 0o777, "lrwxrwxrwx")
	wantText(t, api.NoNone, 0, "?---------")

	wantOctal(t, 7, "007")
	wantOctal(t, 0o1644, "644")
	wantRead(t, "0755", 0o755)
	wantNoMode(t, "778", "")
}

// P10.1: octal texts of one to five digits.
func TestParseOctal(t *testing.T) {
	for _, c := range []struct {
		s       string
		u, g, o int
	}{
		{"0", 0, 0, 0}, {"1", 0, 0, 1}, {"7", 0, 0, 7}, {"00", 0, 0, 0}, {"07", 0, 0, 7}, {"10", 0, 1, 0}, {"77", 0, 7, 7}, {"22", 0, 2, 2},
		{"000", 0, 0, 0}, {"007", 0, 0, 7}, {"022", 0, 2, 2}, {"100", 1, 0, 0}, {"123", 1, 2, 3}, {"456", 4, 5, 6}, {"777", 7, 7, 7},
		{"0000", 0, 0, 0}, {"0001", 0, 0, 1}, {"0010", 0, 1, 0}, {"0100", 1, 0, 0}, {"0123", 1, 2, 3}, {"0777", 7, 7, 7},
	} {
		wantParse(t, c.s, octal(c.u, c.g, c.o)...)
	}
	wantError(t, api.ErrForm, "8", "9", "08", "80", "78", "779", "787", "877", "778", "0778", "0877", "0900", "8000", "0008",
		"1000", "1001", "1777", "7000", "7777", "4755", "2755", "00000", "00001", "00777", "01000", "77777", "000000",
		"-1", "+1", "-0", "0x1", "0o7", "0b1", "1_0", "1e1", "7.0", " 7", "7 ", "7\n", "7\x00", "\x007", "7,", ",7", "7,7", "777,777", "644,u+r", "u+r,644", "u644", "u=6", "=7", "6u", "644u+x", "644+x", "a")
}

// P10.1: who, ahead of the first action.
func TestParseWho(t *testing.T) {
	for who, want := range map[string]int{
		"": 0, "u": 4, "g": 2, "o": 1, "a": 7, "ug": 6, "gu": 6, "uo": 5, "ou": 5, "go": 3, "og": 3, "ugo": 7, "ogu": 7, "gou": 7,
		"uu": 4, "gg": 2, "ooo": 1, "aa": 7, "ua": 7, "ao": 7, "aga": 7, "ugugu": 6, "ugoa": 7, "uuggooaa": 7,
	} {
		for _, op := range []byte("+-=") {
			wantParse(t, who+string(op), change(want, op, 0))
			wantParse(t, who+string(op)+"r", change(want, op, 4))
			wantParse(t, who+string(op)+"g", change(want, op, 0, 'g'))
			wantParse(t, "u+x,"+who+string(op)+"X", change(4, '+', 1), change(want, op, 0, 'X'))
		}
		wantError(t, api.ErrForm, who, who+"r", who+"x", who+"X", who+"9", who+" +r", who+",+r", "+r,"+who, "z"+who+"+r", who+"z+r", who+"A+r", who+"U+r")
	}
}

// P10.1: which bits stand behind an action.
func TestParseBits(t *testing.T) {
	for bits, want := range map[string]api.Change{
		"": change(4, '+', 0), "r": change(4, '+', 4), "w": change(4, '+', 2), "x": change(4, '+', 1),
		"rw": change(4, '+', 6), "wr": change(4, '+', 6), "rx": change(4, '+', 5), "wx": change(4, '+', 3), "rwx": change(4, '+', 7), "xwr": change(4, '+', 7),
		"rr": change(4, '+', 4), "rwrwr": change(4, '+', 6), "xxx": change(4, '+', 1),
		"X": change(4, '+', 0, 'X'), "XX": change(4, '+', 0, 'X'), "xX": change(4, '+', 1, 'X'), "Xx": change(4, '+', 1, 'X'),
		"rX": change(4, '+', 4, 'X'), "Xr": change(4, '+', 4, 'X'), "rXw": change(4, '+', 6, 'X'), "rwX": change(4, '+', 6, 'X'), "rwxX": change(4, '+', 7, 'X'), "XrXwXxX": change(4, '+', 7, 'X'),
		"u": change(4, '+', 0, 'u'), "g": change(4, '+', 0, 'g'), "o": change(4, '+', 0, 'o'),
	} {
		for _, op := range []byte("+-=") {
			want.Op = op
			wantParse(t, "u"+string(op)+bits, want)
			wantError(t, api.ErrForm, "u"+string(op)+bits+"a", "u"+string(op)+bits+"t", "u"+string(op)+bits+"s", "u"+string(op)+bits+"R", "u"+string(op)+bits+"4", "u"+string(op)+bits+" ")
		}
	}
}

// P10.1: behind one of u, g, o nothing may stand but another action or another clause, and ahead of it nothing but the Op.
func TestParseCopy(t *testing.T) {
	for _, letter := range []byte("ugo") {
		copied := "=" + string(letter)
		for _, more := range "ugoarwxX0" {
			wantError(t, api.ErrForm, copied+string(more), "u"+copied+string(more), "a+r,u"+copied+string(more), copied+string(more)+"+r", copied+string(more)+",+r")
		}
		for _, ahead := range []string{"r", "w", "x", "X", "rw", "rX", "Xx"} {
			wantError(t, api.ErrForm, "="+ahead+string(letter), "u="+ahead+string(letter)+",+r", "u+w="+ahead+string(letter))
		}
		wantParse(t, "go"+copied+"+x", change(3, '=', 0, letter), change(3, '+', 1))
		wantParse(t, "+r"+copied+"-"+string(letter), change(0, '+', 4), change(0, '=', 0, letter), change(0, '-', 0, letter))
		wantParse(t, copied+","+string(letter)+"+x", change(0, '=', 0, letter), change(map[byte]int{'u': 4, 'g': 2, 'o': 1}[letter], '+', 1))
	}
	wantError(t, api.ErrForm, "=a", "u=a", "+a", "-a", "u=ar")
}

// P10.1: several actions of one clause, with who of that clause; several clauses.
func TestParseSeveral(t *testing.T) {
	wantParse(t, "+-=", change(0, '+', 0), change(0, '-', 0), change(0, '=', 0))
	wantParse(t, "u+-=", change(4, '+', 0), change(4, '-', 0), change(4, '=', 0))
	wantParse(t, "==", change(0, '=', 0), change(0, '=', 0))
	wantParse(t, "ug+r-w=x", change(6, '+', 4), change(6, '-', 2), change(6, '=', 1))
	wantParse(t, "a=rX-x+u-", change(7, '=', 4, 'X'), change(7, '-', 1), change(7, '+', 0, 'u'), change(7, '-', 0))
	wantParse(t, "u=rwx,g=rx,o=", change(4, '=', 7), change(2, '=', 5), change(1, '=', 0))
	wantParse(t, "u+r,+w,o-x", change(4, '+', 4), change(0, '+', 2), change(1, '-', 1))
	wantParse(t, "u+r,u+r", change(4, '+', 4), change(4, '+', 4))
	wantParse(t, "+,-,=", change(0, '+', 0), change(0, '-', 0), change(0, '=', 0))
	wantParse(t, "u=g,g=u", change(4, '=', 0, 'g'), change(2, '=', 0, 'u'))
	wantError(t, api.ErrForm, ",", ",,", ",+r", "+r,", "+r,,+r", ",u+r", "u+r,,g+r", "u+r,g+r,", "u,g+r", "u+r,g", "u+rg+r", "u+r g+r", "u+r, g+r", "u+r ,g+r", " u+r", "u +r", "u+ r", "u+r ", "\tu+r", "u\t+r", "u+r\t", "u+r\n", "u+r\n,g+r", " ", "\t", "u+r;g+r", "u+r/g+r")
}

// P10.1: MaxWord bytes, and one more; the limit is asked first, of bytes.
func TestParseLimit(t *testing.T) {
	who := strings.Repeat("u", api.MaxWord-1)
	wantParse(t, who+"+", change(4, '+', 0))
	wantError(t, api.ErrForm, who+"u")
	wantError(t, api.ErrLimit, who+"u+")

	bits := "+" + strings.Repeat("rX", (api.MaxWord-1)/2) + "w"
	wantParse(t, bits, change(0, '+', 6, 'X'))
	wantError(t, api.ErrLimit, bits+"x")

	most := strings.Repeat("=", api.MaxWord)
	wantParse(t, most, slices.Repeat(changes(change(0, '=', 0)), api.MaxWord)...)
	wantError(t, api.ErrLimit, most+"=", most+",", most+"z")

	clauses := strings.Repeat("o-x,", api.MaxWord/4)
	want := slices.Repeat(changes(change(1, '-', 1)), api.MaxWord/4)
	want[0].Who = 0
	wantParse(t, clauses[1:]+"=", append(want, change(0, '=', 0))...)
	wantError(t, api.ErrLimit, clauses+"=")
}

// P10.1: where a text is too long and none of changes besides, ErrLimit.
func TestParseFirstError(t *testing.T) {
	for _, s := range []string{"0", "7", "8", "z", ",", " ", "u", "\x00", "\xff", "ä"} {
		n := api.MaxWord / len(s)
		wantError(t, api.ErrForm, strings.Repeat(s, n))
		wantError(t, api.ErrLimit, strings.Repeat(s, n)+s, strings.Repeat(s, n)+"+", strings.Repeat(s, 100*n))
	}
}

// P10.1: each byte at each place; just those that the chapter names may stand there.
func TestParseEveryByte(t *testing.T) {
	for x := range 256 {
		for text, may := range map[string]string{
			"%":        "01234567+-=",
			"%+r":      "ugoa+-=",
			"u%+r":     "ugoa+-=",
			"u%":       "+-=",
			"u%r":      "+-=",
			"u+%":      "ugorwxX+-=",
			"u+r%":     "rwxX+-=",
			"u+rw%x":   "rwxX+-=",
			"u+g%":     "+-=",
			"u+g%-r":   "+-=,",
			"u+r%g+r":  ",+-=",
			"u+r%a+r":  ",",
			"u+r,%":    "+-=",
			"u+r,g%":   "+-=",
			"u+r,g-x%": "rwxX+-=",
			"64%":      "01234567",
			"0%4":      "01234567",
			"%644":     "0",
		} {
			s := strings.ReplaceAll(text, "%", one(x))
			_, e := modes.Parse(s)
			if may := strings.Contains(may, one(x)); may != (e == api.OK) || !may && e != api.ErrForm {
				t.Errorf("Parse(%q): %d", s, e)
			}
		}
	}
}

// P10.1: runes that would be a sign, if they were cut to a byte, and bytes that make no rune.
func TestParseRunes(t *testing.T) {
	for _, sign := range "ugoa+-=rwxX,07" {
		for _, above := range []rune{0x100, 0x200, 0x2000, 0x10000} {
			other := string(above + sign)
			wantError(t, api.ErrForm, other, other+"+r", "u"+other+"r", "u"+other+"+r", "u+"+other, "u+r"+other, "u+r"+other+"g+r", "u+g"+other, "6"+other, "64"+other)
			wantNoMode(t, other, "6"+other, other+"6")
		}
	}
	wantError(t, api.ErrForm, "\xff", "u\xff+r", "u+\xff", "u+r\xff", "\xc3", "u+\xc3r", "u+r\xe4\xbd", "u+\uFFFD", "６４４", "ｕ+r")
}

var (
	octalForm   = regexp.MustCompile(`\A(0[0-7]{3}|[0-7]{1,3})\z`)
	clausesForm = regexp.MustCompile(`\A[ugoa]*([-+=]([ugo]|[rwxX]*))+(,[ugoa]*([-+=]([ugo]|[rwxX]*))+)*\z`)
	actionForm  = regexp.MustCompile(`([-+=])([ugo]|[rwxX]*)`)
	whoForm     = regexp.MustCompile(`\A[ugoa]*`)
)

// slowParse says the chapter's words in another way, by regular expressions.
func slowParse(s string) ([]api.Change, api.Errno) {
	if len(s) > 4096 {
		return nil, 3
	}
	if octalForm.MatchString(s) {
		digits := "00" + s
		var l []api.Change
		for i, who := range []int{4, 2, 1} {
			bits, _ := strconv.Atoi(digits[len(digits)-3+i : len(digits)-2+i])
			l = append(l, api.Change{Who: who, Op: '=', Bits: bits})
		}
		return l, 0
	}
	if !clausesForm.MatchString(s) {
		return nil, 5
	}
	var l []api.Change
	for _, clause := range strings.Split(s, ",") {
		names := whoForm.FindString(clause)
		who := slowSum(names, map[string]int{"u": 4, "g": 2, "o": 1})
		if strings.Contains(names, "a") {
			who = 7
		}
		for _, m := range actionForm.FindAllStringSubmatch(clause, -1) {
			c := api.Change{Who: who, Op: m[1][0], Bits: slowSum(m[2], map[string]int{"r": 4, "w": 2, "x": 1}), Dirs: strings.Contains(m[2], "X")}
			if strings.ContainsAny(m[2], "ugo") {
				c.Copy = m[2][0]
			}
			l = append(l, c)
		}
	}
	return l, 0
}

// slowSum: what those letters weigh that stand in a text, each once.
func slowSum(text string, weight map[string]int) int {
	sum := 0
	for letter, n := range weight {
		if strings.Contains(text, letter) {
			sum += n
		}
	}
	return sum
}

func sameAsSlow(t *testing.T, s string) {
	t.Helper()
	l, e := modes.Parse(s)
	if wl, we := slowParse(s); e != we || !slices.Equal(l, wl) {
		t.Fatalf("Parse(%q): %v %d, want %v %d", s, l, e, wl, we)
	}
}

// P10.1: all short texts.
func TestParseAllShort(t *testing.T) {
	for _, s := range shortTexts("ugoa+-=rwxX,0178 ", 4) {
		sameAsSlow(t, s)
	}
	for _, s := range shortTexts("ua+=rX,", 6) {
		sameAsSlow(t, s)
	}
	for _, s := range shortTexts("01478", 6) {
		sameAsSlow(t, s)
	}
}

// P10.1: long texts, most of which may be.
func TestParseLong(t *testing.T) {
	r := rand.New(rand.NewSource(10))
	pick := func(l ...string) string { return l[r.Intn(len(l))] }
	for range 20000 {
		var clauses []string
		for range 1 + r.Intn(6) {
			clause := pick("", "u", "g", "o", "a", "ug", "go", "uo", "ugo", "uu")
			for range 1 + r.Intn(4) {
				clause += pick("+", "-", "=") + pick("", "r", "w", "x", "X", "rw", "rX", "Xwx", "rwxX", "u", "g", "o", "rr")
			}
			clauses = append(clauses, clause)
		}
		s := strings.Join(clauses, ",")
		sameAsSlow(t, s)
		at := r.Intn(len(s) + 1)
		sameAsSlow(t, s[:at]+pick("u", "a", "r", "X", "+", ",", " ", "0", "t", "\x80")+s[at:])
	}
}

// slowMode is a mode as it is told: of user, group, others r, w, x.
type slowMode [3][3]bool

func slowBits(mode int) slowMode {
	var m slowMode
	left := uint(mode) % 512
	for i := 8; i >= 0; i-- {
		m[i/3][i%3] = left%2 == 1
		left /= 2
	}
	return m
}

func (m slowMode) number() int {
	n := 0
	for _, part := range m {
		for _, bit := range part {
			n *= 2
			if bit {
				n++
			}
		}
	}
	return n
}

// slowChange says P10.2 of one change, bit by bit.
func slowChange(c api.Change, m, mask slowMode, dir bool) slowMode {
	told := [3]bool{uint(c.Bits)%8/4 == 1, uint(c.Bits)%4/2 == 1, uint(c.Bits)%2 == 1}
	if from := strings.IndexByte("ugo", c.Copy); from >= 0 {
		for bit := range 3 {
			told[bit] = told[bit] || m[from][bit]
		}
	}
	if c.Dirs && (dir || m[0][2] || m[1][2] || m[2][2]) {
		told[2] = true
	}
	who := [3]bool{uint(c.Who)%8/4 == 1, uint(c.Who)%4/2 == 1, uint(c.Who)%2 == 1}
	nobody := who == [3]bool{}
	out := m
	for i := range 3 {
		for bit := range 3 {
			if !who[i] && !nobody || nobody && mask[i][bit] {
				continue
			}
			switch c.Op {
			case '+':
				out[i][bit] = m[i][bit] || told[bit]
			case '-':
				out[i][bit] = m[i][bit] && !told[bit]
			case '=':
				out[i][bit] = told[bit]
			}
		}
	}
	return out
}

func slowApply(l []api.Change, mode, mask int, dir bool) int {
	m := slowBits(mode)
	for _, c := range l {
		m = slowChange(c, m, slowBits(mask), dir)
	}
	return m.number()
}

// odd: numbers at the edges, of more than nine bits and below 0.
func odd() []int {
	return []int{-1, -2, -8, -9, -511, -512, -513, 512, 513, 1023, 1024, 0o1644, 0o7777, -0o644, 1 << 31, -1 << 31, 1<<31 - 1, math.MaxInt, math.MinInt, math.MaxInt - 0o022, math.MinInt + 0o644}
}

// P10.2: without changes the mode's nine lowest bits are left.
func TestApplyNone(t *testing.T) {
	for _, l := range [][]api.Change{nil, {}, changes(change(7, '=', 7))[:0]} {
		for mode := range 512 {
			wantApply(t, l, mode, 0, false, mode)
			wantApply(t, l, mode, 0o777, true, mode)
			wantApply(t, l, mode+512, mode, true, mode)
			wantApply(t, l, mode-512, -1, false, mode)
			wantApply(t, l, math.MinInt+mode, 0, false, mode)
		}
		wantApply(t, l, -1, 0, false, 0o777)
		wantApply(t, l, math.MaxInt, 0, false, 0o777)
		wantApply(t, l, math.MinInt, 0, false, 0)
		wantApply(t, l, 0o1644, 0, false, 0o644)
	}
}

// P10.2: what each Op does, for each of user, group, others.
func TestApplyOps(t *testing.T) {
	for _, c := range []struct {
		s          string
		mode, want int
	}{
		{"u+r", 0o000, 0o400}, {"u+w", 0o000, 0o200}, {"u+x", 0o000, 0o100}, {"g+r", 0o000, 0o040}, {"g+w", 0o000, 0o020}, {"g+x", 0o000, 0o010}, {"o+r", 0o000, 0o004}, {"o+w", 0o000, 0o002}, {"o+x", 0o000, 0o001},
		{"u-r", 0o777, 0o377}, {"u-w", 0o777, 0o577}, {"u-x", 0o777, 0o677}, {"g-r", 0o777, 0o737}, {"g-w", 0o777, 0o757}, {"g-x", 0o777, 0o767}, {"o-r", 0o777, 0o773}, {"o-w", 0o777, 0o775}, {"o-x", 0o777, 0o776},
		{"u=r", 0o777, 0o477}, {"g=w", 0o777, 0o727}, {"o=x", 0o777, 0o771}, {"u=", 0o777, 0o077}, {"go=", 0o777, 0o700}, {"ug=rw", 0o007, 0o667}, {"uo=rx", 0o020, 0o525}, {"a=rwx", 0, 0o777},
		{"u+r", 0o644, 0o644}, {"u-x", 0o644, 0o644}, {"u+", 0o644, 0o644}, {"a-", 0o644, 0o644}, {"a+rw", 0o111, 0o777}, {"a-rw", 0o777, 0o111}, {"go-rwx", 0o755, 0o700},
	} {
		for _, mask := range []int{0, 0o022, 0o777, -1} { // where Who tells somebody, the mask does nothing
			wantDone(t, c.s, c.mode, mask, false, c.want)
			wantDone(t, c.s, c.mode, mask, true, c.want)
			wantDone(t, c.s, c.mode-512, mask, true, c.want)
		}
	}
}

// P10.2: where Who tells none, bits of the mask stay as they are.
func TestApplyMask(t *testing.T) {
	for _, c := range []struct {
		s                string
		mode, mask, want int
	}{
		{"+rwx", 0o000, 0o022, 0o755}, {"+rwx", 0o022, 0o022, 0o777}, {"+rwx", 0o000, 0o777, 0o000}, {"+rwx", 0o000, 0o000, 0o777}, {"+x", 0o644, 0o077, 0o744},
		{"-rwx", 0o777, 0o022, 0o022}, {"-w", 0o777, 0o020, 0o575}, {"-rwx", 0o777, 0o777, 0o777}, {"-rwx", 0o777, 0, 0}, {"-r", 0o444, 0o044, 0o044},
		{"=rw", 0o000, 0o022, 0o644}, {"=rw", 0o777, 0o022, 0o666}, {"=r", 0o123, 0o777, 0o123}, {"=", 0o755, 0o750, 0o750}, {"=x", 0o666, 0o200, 0o311},
		{"=u", 0o700, 0o022, 0o755}, {"+g", 0o050, 0o001, 0o554}, {"-o", 0o777, 0o070, 0o070}, {"+X", 0o100, 0o010, 0o101},
	} {
		wantDone(t, c.s, c.mode, c.mask, false, c.want)
		wantDone(t, c.s, c.mode+1024, c.mask+512, false, c.want)
		wantDone(t, c.s, c.mode-512, c.mask-512, false, c.want)
		wantDone(t, c.s, math.MinInt+c.mode, math.MinInt+c.mask, false, c.want)
	}
	wantDone(t, "a=rwx", 0, 0o777, false, 0o777)
	wantDone(t, "ugo=rwx", 0, 0o777, false, 0o777)
	wantDone(t, "=rwx", 0, -1, false, 0)
	wantDone(t, "=rwx", 0, 512, false, 0o777)
}

// P10.2: of Who and of Bits just the three lowest bits count; where Who has none of these, it tells none.
func TestApplyWideFields(t *testing.T) {
	for _, add := range []int{8, 16, 64, 512, 1 << 40, -8, -16, -512, math.MinInt, math.MaxInt - 7} {
		for _, op := range []byte("+-=") {
			for low := range 8 {
				for _, mode := range []int{0, 0o777, 0o640, 0o125} {
					who := change(low, op, 5)
					want := slowApply(changes(who), mode, 0o137, false)
					who.Who += add
					wantApply(t, changes(who), mode, 0o137, false, want)

					bits := change(5, op, low)
					want = slowApply(changes(bits), mode, 0o137, false)
					bits.Bits += add
					wantApply(t, changes(bits), mode, 0o137, false, want)
				}
			}
		}
	}
	wantApply(t, changes(change(8, '=', 7)), 0, 0o022, false, 0o755)
	wantApply(t, changes(change(12, '=', 7)), 0, 0o022, false, 0o700)
	wantApply(t, changes(change(-1, '=', 4)), 0, 0o022, false, 0o444)
	wantApply(t, changes(change(-8, '=', 4)), 0, 0o440, false, 0o004)
	wantApply(t, changes(change(4, '=', 8)), 0o777, 0, false, 0o077)
	wantApply(t, changes(change(4, '=', -1)), 0, 0, false, 0o700)
	wantApply(t, changes(change(1, '+', 8|64)), 0, 0, false, 0)
}

// P10.2: what is copied, besides Bits; any other Copy tells nothing.
func TestApplyCopy(t *testing.T) {
	for _, c := range []struct {
		s          string
		mode, want int
	}{
		{"u=g", 0o640, 0o440}, {"u=o", 0o641, 0o141}, {"g=u", 0o640, 0o660}, {"g=o", 0o653, 0o633}, {"o=u", 0o640, 0o646}, {"o=g", 0o650, 0o655},
		{"u=u", 0o640, 0o640}, {"a=u", 0o512, 0o555}, {"a=g", 0o512, 0o111}, {"a=o", 0o512, 0o222},
		{"u+g", 0o250, 0o750}, {"g+o", 0o741, 0o751}, {"a+o", 0o124, 0o564}, {"a-g", 0o730, 0o400}, {"u-u", 0o777, 0o077}, {"o-u", 0o107, 0o106}, {"a-u", 0o777, 0},
	} {
		wantDone(t, c.s, c.mode, 0, false, c.want)
		wantDone(t, c.s, c.mode-512, 0o777, true, c.want)
	}
	wantApply(t, changes(change(1, '=', 2, 'u')), 0o500, 0, false, 0o507)
	wantApply(t, changes(change(1, '+', 4, 'g')), 0o010, 0, false, 0o015)
	wantApply(t, changes(change(1, '-', 4, 'o')), 0o003, 0, false, 0)
	for x := range 256 {
		if other := byte(x); !strings.Contains("ugo", one(x)) {
			wantApply(t, changes(api.Change{Who: 7, Op: '=', Bits: 2, Copy: other}), 0o751, 0, false, 0o222)
			wantApply(t, changes(api.Change{Who: 7, Op: '+', Copy: other}), 0o751, 0, false, 0o751)
			wantApply(t, changes(api.Change{Who: 7, Op: '-', Bits: 1, Copy: other}), 0o751, 0, false, 0o640)
		}
	}
}

// P10.2: Dirs, of a directory and of none, where nobody, one and all have x.
func TestApplyDirs(t *testing.T) {
	for _, c := range []struct {
		s          string
		mode       int
		file, dirs int
	}{
		{"a+X", 0o000, 0o000, 0o111}, {"a+X", 0o666, 0o666, 0o777}, {"a+X", 0o100, 0o111, 0o111}, {"a+X", 0o010, 0o111, 0o111}, {"a+X", 0o001, 0o111, 0o111}, {"a+X", 0o777, 0o777, 0o777},
		{"u+X", 0o644, 0o644, 0o744}, {"u+X", 0o645, 0o745, 0o745}, {"g+X", 0o744, 0o754, 0o754}, {"o+X", 0o654, 0o655, 0o655},
		{"a=X", 0o666, 0o000, 0o111}, {"a=X", 0o676, 0o111, 0o111}, {"u=rX", 0o200, 0o400, 0o500}, {"u=rX", 0o201, 0o501, 0o501}, {"u=rX", 0o300, 0o500, 0o500},
		{"a-X", 0o666, 0o666, 0o666}, {"a-X", 0o676, 0o666, 0o666}, {"u-X", 0o777, 0o677, 0o677}, {"go-X", 0o111, 0o100, 0o100},
		{"u+xX", 0o600, 0o700, 0o700}, {"+X", 0o600, 0o600, 0o711}, {"+X", 0o601, 0o711, 0o711},
	} {
		wantDone(t, c.s, c.mode, 0, false, c.file)
		wantDone(t, c.s, c.mode, 0, true, c.dirs)
		wantDone(t, c.s, c.mode-512, 0, false, c.file)
		wantDone(t, c.s, c.mode+512, 0, true, c.dirs)
	}
	wantApply(t, changes(change(1, '=', 0, 'g', 'X')), 0o660, 0, false, 0o666)
	wantApply(t, changes(change(1, '=', 0, 'g', 'X')), 0o660, 0, true, 0o667)
	wantApply(t, changes(change(1, '=', 0, 'g', 'X')), 0o760, 0, false, 0o767)
	wantApply(t, changes(change(1, '=', 0, 'X')), 0o1000, 0, false, 0) // a bit above the nine is nobody's x
}

// P10.2: any Op but the three does nothing.
func TestApplyOtherOps(t *testing.T) {
	for x := range 256 {
		if strings.Contains("+-=", one(x)) {
			continue
		}
		for mode := range 512 {
			wantApply(t, changes(change(7, byte(x), 5, 'g', 'X')), mode, 0, true, mode)
			wantApply(t, changes(change(0, byte(x), 7)), mode, 0o022, false, mode)
		}
		wantApply(t, changes(change(4, '+', 1), change(7, byte(x), 7), change(1, '=', 2)), 0o644, 0, false, 0o742)
	}
	wantApply(t, make([]api.Change, 3), 0o1644, 0, true, 0o644)
}

// P10.2: a later change sees what an earlier one did.
func TestApplyOrder(t *testing.T) {
	for _, c := range []struct {
		s          string
		mode, want int
	}{
		{"u=g,g=u", 0o750, 0o550}, {"g=u,u=g", 0o750, 0o770}, {"u=o,g=u,o=g", 0o124, 0o444}, {"u+x,a+X", 0o644, 0o755}, {"a+X,u+x", 0o644, 0o744}, {"a-x+X", 0o755, 0o644}, {"a-x,u+x,go+X", 0o777, 0o777},
		{"u=,g=u", 0o777, 0o007}, {"a=,u=rwx", 0o123, 0o700}, {"u=rwx,a=", 0o123, 0}, {"u+r-r", 0o400, 0o000}, {"u-r+r", 0o000, 0o400}, {"go=u-w", 0o600, 0o644}, {"=r,+w", 0o777, 0o666}, {"+w,=r", 0o777, 0o444},
	} {
		wantDone(t, c.s, c.mode, 0, false, c.want)
	}
	wantDone(t, "a=,=r", 0o777, 0o022, false, 0o444)
	wantDone(t, "=,a+r", 0o777, 0o022, false, 0o466)
	wantDone(t, "640", 0o777, 0o777, true, 0o640)

	many := slices.Repeat(changes(change(4, '+', 7), change(4, '-', 7)), 50000)
	wantApply(t, many, 0o777, 0, false, 0o077)
	wantApply(t, many[:len(many)-1], 0, 0, false, 0o700)
}

// allChanges: with each Who up to 8, each Op and another one, all Bits, each Copy and another one, with and without Dirs.
func allChanges() []api.Change {
	var out []api.Change
	for who := range 9 {
		for _, op := range []byte("+-=x") {
			for bits := range 8 {
				for _, letter := range []byte("\x00ugoa") {
					for _, dirs := range []bool{false, true} {
						out = append(out, api.Change{Who: who, Op: op, Bits: bits, Copy: letter, Dirs: dirs})
					}
				}
			}
		}
	}
	return out
}

// P10.2: all changes at all modes, with some mask; some changes with all masks, at some modes.
func TestApplyAll(t *testing.T) {
	for i, c := range allChanges() {
		for mode := range 512 {
			for _, dir := range []bool{false, true} {
				mask := (mode*5 + i*7) % 512
				if got, want := modes.Apply(changes(c), mode, mask, dir), slowApply(changes(c), mode, mask, dir); got != want {
					t.Fatalf("Apply(%v, %o, %o, %v): %o, want %o", c, mode, mask, dir, got, want)
				}
			}
		}
	}
	for _, c := range changes(change(0, '+', 7), change(0, '-', 5), change(0, '=', 6), change(8, '=', 0, 'u', 'X')) {
		for mask := range 512 {
			for mode := mask % 7; mode < 512; mode += 7 {
				if got, want := modes.Apply(changes(c), mode, mask, false), slowApply(changes(c), mode, mask, false); got != want {
					t.Fatalf("Apply(%v, %o, %o): %o, want %o", c, mode, mask, got, want)
				}
			}
		}
	}
}

// P10.2, R1: lists of changes with any fields, any modes and masks.
func TestApplyAny(t *testing.T) {
	r := rand.New(rand.NewSource(102))
	all := allChanges()
	number := func() int {
		if r.Intn(3) == 0 {
			return odd()[r.Intn(len(odd()))]
		}
		return int(r.Uint64() >> r.Intn(64))
	}
	for range 50000 {
		l := make([]api.Change, r.Intn(6))
		for i := range l {
			l[i] = all[r.Intn(len(all))]
			if r.Intn(4) == 0 {
				l[i].Who, l[i].Bits = number(), number()
			}
		}
		mode, mask, dir := number(), number(), r.Intn(2) == 0
		if got, want := modes.Apply(l, mode, mask, dir), slowApply(l, mode, mask, dir); got != want {
			t.Fatalf("Apply(%v, %o, %o, %v): %o, want %o", l, mode, mask, dir, got, want)
		}
	}
}

// P10.3: each kind, any other one, and each bit alone.
func TestText(t *testing.T) {
	for k := range 256 {
		sign := "?"
		switch k {
		case 1:
			sign = "-"
		case 2:
			sign = "d"
		case 3:
			sign = "l"
		}
		kind := api.NodeKind(k)
		wantText(t, kind, 0, sign+"---------")
		wantText(t, kind, 0o777, sign+"rwxrwxrwx")
		for i, bit := range []int{0o400, 0o200, 0o100, 0o040, 0o020, 0o010, 0o004, 0o002, 0o001} {
			only := []byte("---------")
			only[i] = "rwx"[i%3]
			wantText(t, kind, bit, sign+string(only))
			wantText(t, kind, bit+512, sign+string(only))
			wantText(t, kind, bit-512, sign+string(only))
			but := []byte("rwxrwxrwx")
			but[i] = '-'
			wantText(t, kind, 0o777-bit, sign+string(but))
			wantText(t, kind, -1-bit, sign+string(but))
		}
	}
	wantText(t, api.NoFile, -1, "-rwxrwxrwx")
	wantText(t, api.NoFile, math.MinInt, "----------")
	wantText(t, api.NoDir, math.MaxInt, "drwxrwxrwx")
	wantText(t, api.NoLink, 0o1644, "lrw-r--r--")
}

// P10.3: all modes.
func TestTextAll(t *testing.T) {
	part := []string{"---", "--x", "-w-", "-wx", "r--", "r-x", "rw-", "rwx"}
	for mode := range 512 {
		wantText(t, api.NoFile, mode, "-"+part[mode/64]+part[mode/8%8]+part[mode%8])
	}
}

// P10.4: Octal, and Read of what it told.
func TestOctal(t *testing.T) {
	for mode := range 512 {
		want := fmt.Sprintf("%03o", mode)
		for _, add := range []int{0, 512, 1024, 1 << 20, -512, -1024, math.MinInt, math.MaxInt - 511} {
			wantOctal(t, mode+add, want)
		}
		wantRead(t, modes.Octal(mode), mode)
		wantRead(t, "0"+modes.Octal(mode), mode)
		wantNoMode(t, "00"+modes.Octal(mode), "1"+modes.Octal(mode), "7"+modes.Octal(mode), modes.Octal(mode)+" ", "-"+modes.Octal(mode), "+"+modes.Octal(mode))
	}
	wantOctal(t, -1, "777")
	wantOctal(t, 0, "000")
	wantOctal(t, 0o7777, "777")
	wantOctal(t, 0o10000, "000")
	for _, mode := range odd() {
		wantRead(t, modes.Octal(mode), mode&0o777)
	}
}

// P10.4: Read.
func TestRead(t *testing.T) {
	for s, want := range map[string]int{"0": 0, "7": 7, "10": 8, "77": 63, "100": 64, "777": 511, "00": 0, "007": 7, "0000": 0, "0007": 7, "0010": 8, "0777": 511, "0640": 416} {
		wantRead(t, s, want)
	}
	wantNoMode(t, "", "8", "9", "18", "81", "778", "0778", "00000", "00777", "01000", "1000", "1777", "7777", "77777", "-1", "+1", "-", "+", " ", " 7", "7 ", "7\n", "\t7", "a", "u+r", "=", "7,7", "0x7", "0o7", "7.0", "1_0", "\x00", "7\x00", "\xff", "7\xff", "７", "٣", strings.Repeat("0", 5000), strings.Repeat("7", 5000))
	for x := range 256 {
		if x >= '0' && x <= '7' {
			wantRead(t, one(x), x-'0')
			wantRead(t, "06"+one(x)+"1", 385+(x-'0')*8)
		} else {
			wantNoMode(t, one(x), one(x)+"1", "1"+one(x), "06"+one(x)+"1")
		}
	}
	for _, s := range shortTexts("01789 ", 5) {
		n, err := strconv.ParseUint(s, 8, 0)
		if ok := err == nil && len(s) <= 4 && n < 512; ok {
			wantRead(t, s, int(n))
		} else {
			wantNoMode(t, s)
		}
	}
}

// P10.1, P10.4: Parse takes the same octal texts as Read.
func TestReadAsParse(t *testing.T) {
	for _, s := range shortTexts("01478", 5) {
		_, e := modes.Parse(s)
		if _, ok := modes.Read(s); ok != (e == api.OK) {
			t.Errorf("%q: Read %v, Parse %d", s, ok, e)
		}
	}
}

// P10.5: what an octal text makes of any mode is that mode.
func TestOctalMakes(t *testing.T) {
	for want := range 512 {
		l, short := parsed(t, modes.Octal(want)), parsed(t, strconv.FormatInt(int64(want), 8))
		if !slices.Equal(l, short) {
			t.Errorf("%o: %v, %v", want, l, short)
		}
		for mode := range 512 {
			if got := modes.Apply(l, mode, mode^want, mode%2 == 0); got != want {
				t.Fatalf("%o of %o: %o", want, mode, got)
			}
		}
		for _, mode := range odd() {
			wantApply(t, l, mode, 0, true, want)
			wantApply(t, l, 0, mode, false, want)
		}
	}
}

// P10.5: a change that copies nothing makes no difference when it is done again.
func TestAgain(t *testing.T) {
	for i, c := range allChanges() {
		if c.Copy != 0 {
			continue
		}
		for mode := range 512 {
			mask, dir := (mode*11+i)%512, (mode+i)%2 == 0
			first := modes.Apply(changes(c), mode, mask, dir)
			if again := modes.Apply(changes(c), first, mask, dir); again != first {
				t.Fatalf("%v, again, of %o, mask %o: %o, %o", c, mode, mask, first, again)
			}
			if twice := modes.Apply(changes(c, c), mode, mask, dir); twice != first {
				t.Fatalf("%v, twice, of %o, mask %o: %o, %o", c, mode, mask, first, twice)
			}
		}
	}
}

// R4: what is handed in stays as it was, its spare room too.
func TestApplyMemory(t *testing.T) {
	room := changes(change(4|8, '+', 1|16), change(2, '=', 0, 'u', 'X'), change(0, '-', -1), change(7, '=', 7), change(7, '-', 7))
	before := slices.Clone(room)
	first := modes.Apply(room[:3], 0o644, 0o022, false)
	if again := modes.Apply(room[:3:3], 0o644, 0o022, false); again != first {
		t.Errorf("again: %o, %o", first, again)
	}
	if !slices.Equal(room, before) {
		t.Errorf("handed in: %v", room)
	}
}

// R4: answers of Parse are new memory, spare room too.
func TestParseMemory(t *testing.T) {
	for _, s := range []string{"640", "u+r", "u+r,g-w,o=x+X", "a=rX-x+u", "+-=+-"} {
		first, _ := modes.Parse(s)
		want := slices.Clone(first)
		second, _ := modes.Parse(s)
		for i := range first[:cap(first)] {
			first[:cap(first)][i] = change(-1, 'z', -1, 'z', 'X')
		}
		_ = append(first, change(-1, 'z', -1))
		if !slices.Equal(second, want) {
			t.Errorf("another answer of %s: %v", s, second)
		}
		wantParse(t, s, want...)
	}
}

// R5: answers hang on nothing but what was handed in.
func TestSameAgain(t *testing.T) {
	wantParse(t, "u+r", change(4, '+', 4))
	wantError(t, api.ErrForm, "u+r,z")
	wantParse(t, "+r", change(0, '+', 4))
	wantDone(t, "a=,u+x", 0o777, 0, true, 0o100)
	wantDone(t, "u+r", 0, 0, false, 0o400)
	for range 3 {
		wantText(t, api.NoDir, 0o751, "drwxr-x--x")
		wantOctal(t, 0o751, "751")
		wantRead(t, "751", 0o751)
	}
}
