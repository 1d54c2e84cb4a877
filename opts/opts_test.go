package opts_test

import (
	"slices"
	"strconv"
	"strings"
	"testing"

	"toolchest/api"
	"toolchest/opts"
)

// flag: a letter, and what is told with it behind it.
func flag(s string) api.Flag { return api.Flag{Letter: s[0], Arg: s[1:]} }

func flags(l ...string) []api.Flag {
	var out []api.Flag
	for _, s := range l {
		out = append(out, flag(s))
	}
	return out
}

func words(l ...string) []string { return l }

func wantParse(t *testing.T, which string, args []string, fl []api.Flag, left []string) {
	t.Helper()
	l, rest, e := opts.Parse(which, args)
	if e != api.OK || !slices.Equal(l, fl) || !slices.Equal(rest, left) {
		t.Errorf("Parse(%q, %q): %v %q %d, want %v %q", which, args, l, rest, e, fl, left)
	}
}

func wantError(t *testing.T, which string, args []string, want api.Errno) {
	t.Helper()
	l, rest, e := opts.Parse(which, args)
	if e != want || len(l) != 0 || len(rest) != 0 {
		t.Errorf("Parse(%q, %q): %v %q %d, want %d and nothing else", which, args, l, rest, e, want)
	}
}

// P1.1: the chapter's examples.
func TestParseExamples(t *testing.T) {
	wantParse(t, "an:", words("-a", "-n5", "x", "-a"), flags("a", "n5"), words("x", "-a"))
	wantParse(t, "an:", words("-an", "5", "--", "-a"), flags("a", "n5"), words("-a"))
	wantParse(t, "an:", words("-a", "-", "-a"), flags("a"), words("-", "-a"))
	wantParse(t, "an:", words("-n", "-a", "b"), flags("n-a"), words("b"))
	wantError(t, "an:", words("-b"), api.ErrUsage)
	wantError(t, "an:", words("-n"), api.ErrUsage)
	wantParse(t, "a", words("-aa"), flags("a", "a"), nil)
	wantParse(t, "a", nil, nil, nil)
	for _, which := range []string{"aa", ":a", "a::", "-"} {
		wantError(t, which, nil, api.ErrArg)
	}
}

// P1.1: what ends the options, and what is left.
func TestParseEnds(t *testing.T) {
	for _, c := range []struct {
		args []string
		fl   []api.Flag
		left []string
	}{
		{nil, nil, nil},
		{words(), nil, nil},
		{words("--"), nil, nil},
		{words("--", "--"), nil, words("--")},
		{words("--", "-b", "-n"), nil, words("-b", "-n")},
		{words("-"), nil, words("-")},
		{words("-", "--", "-b"), nil, words("-", "--", "-b")},
		{words(""), nil, words("")},
		{words("", "-a"), nil, words("", "-a")},
		{words("x-a", "-a"), nil, words("x-a", "-a")},
		{words("+a"), nil, words("+a")},
		{words(" -a"), nil, words(" -a")},
		{words("x", "--", "-a"), nil, words("x", "--", "-a")},
		{words("-a", "--"), flags("a"), nil},
		{words("-a", "--", "x"), flags("a"), words("x")},
		{words("-a", "x", "-b"), flags("a"), words("x", "-b")},
	} {
		wantParse(t, "an:", c.args, c.fl, c.left)
	}
}

// P1.1: what is told with a letter is whatever stands there.
func TestParseTold(t *testing.T) {
	for _, c := range []struct {
		args []string
		fl   []api.Flag
		left []string
	}{
		{words("-n", ""), flags("n"), nil},
		{words("-n", "-"), flags("n-"), nil},
		{words("-n", "--"), flags("n--"), nil},
		{words("-n", "--", "--", "-a"), flags("n--"), words("-a")},
		{words("-n", "-n", "-n", "-n"), flags("n-n", "n-n"), nil},
		{words("-nn"), flags("nn"), nil},
		{words("-na"), flags("na"), nil},
		{words("-na", "-a"), flags("na", "a"), nil},
		{words("-n-"), flags("n-"), nil},
		{words("-n--", "-a"), flags("n--", "a"), nil},
		{words("-n:"), flags("n:"), nil},
		{words("-nb"), flags("nb"), nil},
		{words("-n\x00\xff"), flags("n\x00\xff"), nil},
		{words("-aan", "b", "-a", "c"), flags("a", "a", "nb", "a"), words("c")},
		{words("-n1", "-a", "-n", "2", "-a"), flags("n1", "a", "n2", "a"), nil},
	} {
		wantParse(t, "an:", c.args, c.fl, c.left)
	}
}

func TestParseUsage(t *testing.T) {
	for _, args := range [][]string{
		words("-b"), words("-ab"), words("-ba"), words("-A"), words("-N", "5"), words("-a", "-b"),
		words("-a-"), words("-a--"), words("--a"), words("---"), words("-:"), words("-a:"), words("- "), words("-\x00"), words("-\xc3\xa4"),
		words("-n"), words("-an"), words("-a", "-n"), words("-n5", "-n"), words("-n", "5", "-n"),
		words("-n", "5", "-b"), words("-a", "-b", "--", "x"),
	} {
		wantError(t, "an:", args, api.ErrUsage)
	}
	wantError(t, "", words("-a"), api.ErrUsage)
}

func isOption(c byte) bool {
	return strings.IndexByte("ABCDEFGHIJKLMNOPQRSTUVWXYZabcdefghijklmnopqrstuvwxyz0123456789", c) >= 0
}

// P1.1: of all bytes, just letters and digits may be options.
func TestParseEveryByte(t *testing.T) {
	for i := range 256 {
		c := string([]byte{byte(i)})
		if !isOption(byte(i)) {
			wantError(t, c, nil, api.ErrArg)
			wantError(t, c+":", nil, api.ErrArg)
			if c != ":" {
				wantError(t, "x"+c+"y", nil, api.ErrArg)
			}
			continue
		}
		wantParse(t, c, words("-"+c, "y"), flags(c), words("y"))
		wantParse(t, c+":", words("-"+c, "y"), flags(c+"y"), nil)
		wantError(t, c+c, nil, api.ErrArg)
	}
}

func TestParseWhich(t *testing.T) {
	for _, which := range []string{":", "::", "a::b", "a:b::", "aba", "a:a", "aa:", "a:a:", "ab:c:b", "a b", "a-", "a,b", "\xc3\xa4", "a\x00", "a:\n"} {
		wantError(t, which, nil, api.ErrArg)
	}
	wantParse(t, "", words("x"), nil, words("x"))
	wantParse(t, "", words("--", "-a"), nil, words("-a"))
	wantParse(t, "aA", words("-aA"), flags("a", "A"), nil)
	wantParse(t, "a:b", words("-bay"), flags("b", "ay"), nil)
	wantParse(t, "a:b:", words("-ab", "-ba"), flags("ab", "ba"), nil)

	var all, told, args strings.Builder
	var want []api.Flag
	for i := range 256 {
		if c := byte(i); isOption(c) {
			all.WriteByte(c)
			told.WriteByte(c)
			told.WriteByte(':')
			args.WriteByte(c)
			want = append(want, api.Flag{Letter: c})
		}
	}
	wantParse(t, all.String(), words("-"+args.String()), want, nil)
	wantParse(t, told.String(), words("-"+args.String()), flags(args.String()), nil)
	wantError(t, all.String()+"a", nil, api.ErrArg)
}

// P1.1: MaxArgs words, and one more.
func TestParseLimit(t *testing.T) {
	most := slices.Repeat(words("-a"), api.MaxArgs)
	wantParse(t, "a", most, flags(slices.Repeat(words("a"), api.MaxArgs)...), nil)
	wantError(t, "a", append(most, "-a"), api.ErrLimit)

	left := slices.Repeat(words("x"), api.MaxArgs)
	wantParse(t, "a", left, nil, left)
	wantError(t, "a", append(left, "x"), api.ErrLimit)
	wantError(t, "a", append(words("--"), left...), api.ErrLimit)
	wantError(t, "a", make([]string, 100*api.MaxArgs), api.ErrLimit)

	long := strings.Repeat("a", 3*api.MaxWord)
	wantParse(t, "an:", words("-n"+long, "-n", long, "-"+long, long), slices.Concat(flags("n"+long, "n"+long), flags(slices.Repeat(words("a"), len(long))...)), words(long))
}

// P1.1: which of several errors comes first.
func TestParseFirstError(t *testing.T) {
	many := slices.Repeat(words("-b"), api.MaxArgs+1)
	wantError(t, "aa", many, api.ErrArg)
	wantError(t, "a", many, api.ErrLimit)
	wantError(t, "aa", words("-b"), api.ErrArg)
	wantError(t, "a", many[1:], api.ErrUsage)
}

// parts: all ways to write s as pieces that are not empty, one behind the other.
func parts(s string) [][]string {
	if s == "" {
		return [][]string{nil}
	}
	var out [][]string
	for i := 1; i <= len(s); i++ {
		for _, more := range parts(s[i:]) {
			out = append(out, append(words(s[:i]), more...))
		}
	}
	return out
}

// P1.4: letters in one word or each in its own; what is told in the letter's word or in the next one.
func TestParseFollows(t *testing.T) {
	want := flags("a", "b", "a", "c", "n5", "b")
	for _, l := range parts("abacn") {
		for i := range l {
			l[i] = "-" + l[i]
		}
		same := slices.Clone(l)
		same[len(same)-1] += "5"
		wantParse(t, "abcn:", append(same, "-b", "x", "-a"), want, words("x", "-a"))
		next := append(slices.Clone(l), "5")
		wantParse(t, "abcn:", append(next, "-b", "x", "-a"), want, words("x", "-a"))
	}
}

// slowParse says the chapter's rule for the options a and n: in another way: one letter is taken off at a time, the rest is parsed anew.
func slowParse(args []string) ([]api.Flag, []string, api.Errno) {
	if len(args) == 0 {
		return nil, nil, api.OK
	}
	word, behind := args[0], args[1:]
	if word == "--" {
		return nil, behind, api.OK
	}
	if word == "-" || !strings.HasPrefix(word, "-") {
		return nil, args, api.OK
	}
	f, more := api.Flag{Letter: word[1]}, word[2:]
	switch {
	case f.Letter == 'a' && more == "":
	case f.Letter == 'a' && more[0] == '-': // it would look like a word's end
		return nil, nil, api.ErrUsage
	case f.Letter == 'a':
		behind = append(words("-"+more), behind...)
	case f.Letter == 'n' && more != "":
		f.Arg = more
	case f.Letter == 'n' && len(behind) > 0:
		f.Arg, behind = behind[0], behind[1:]
	default:
		return nil, nil, api.ErrUsage
	}
	l, left, e := slowParse(behind)
	if e != api.OK {
		return nil, nil, e
	}
	return append([]api.Flag{f}, l...), left, api.OK
}

// P1.1: all lists of up to three short words.
func TestParseAllShort(t *testing.T) {
	short := words("")
	for from, n := 0, 0; n < 3; n++ {
		to := len(short)
		for _, s := range short[from:to] {
			for _, c := range words("-", "a", "n", "z") {
				short = append(short, s+c)
			}
		}
		from = to
	}
	check := func(args ...string) {
		l, left, e := opts.Parse("an:", args)
		wl, wleft, we := slowParse(args)
		if e != we || !slices.Equal(l, wl) || !slices.Equal(left, wleft) {
			t.Fatalf("Parse(%q): %v %q %d, want %v %q %d", args, l, left, e, wl, wleft, we)
		}
	}
	for _, a := range short {
		check(a)
		for _, b := range short {
			check(a, b)
			for _, c := range short {
				check(a, b, c)
			}
		}
	}
}

// R4: what is handed in stays as it was, its spare room too; answers are new memory.
func TestParseMemory(t *testing.T) {
	room := words("-a", "-n", "5", "x", "y", "spare", "room")
	before := slices.Clone(room)
	l1, left1, _ := opts.Parse("an:", room[:5])
	l2, left2, _ := opts.Parse("an:", room[:5])
	for _, left := range [][]string{left1, left2} {
		for i := range left[:cap(left)] {
			left[:cap(left)][i] = "changed"
		}
	}
	for i := range l1[:cap(l1)] {
		l1[:cap(l1)][i] = flag("zz")
	}
	if !slices.Equal(room, before) {
		t.Errorf("handed in: %q", room)
	}
	if !slices.Equal(l2, flags("a", "n5")) {
		t.Errorf("another answer: %v", l2)
	}
	wantParse(t, "an:", room[:5], flags("a", "n5"), words("x", "y"))

	_, left, _ := opts.Parse("an:", room[:1])
	_ = append(left, "changed")
	l, left, _ := opts.Parse("an:", room[3:5])
	room[3] = "changed"
	if len(l) != 0 || !slices.Equal(left, words("x", "y")) || room[1] != "-n" {
		t.Errorf("kept: %v %q %q", l, left, room)
	}
}

// P1.2: Has.
func TestHas(t *testing.T) {
	l := flags("a", "a", "n", "na", "\x00", "\xff")
	before := slices.Clone(l)
	for i := range 256 {
		want := map[byte]int{'a': 2, 'n': 2, 0: 1, 255: 1}[byte(i)]
		if n := opts.Has(l, byte(i)); n != want {
			t.Errorf("Has(%q): %d, want %d", byte(i), n, want)
		}
		if n := opts.Has(nil, byte(i)); n != 0 {
			t.Errorf("Has(none, %q): %d", byte(i), n)
		}
	}
	if n := opts.Has(flags("a", "a", "n"), 'a'); n != 2 {
		t.Errorf("Has: %d", n)
	}
	if n := opts.Has(make([]api.Flag, 5000), 0); n != 5000 {
		t.Errorf("Has: %d", n)
	}
	if n := opts.Has([]api.Flag{}, 'a'); n != 0 {
		t.Errorf("Has: %d", n)
	}
	if !slices.Equal(l, before) {
		t.Errorf("handed in: %v", l)
	}
}

// P1.2: Last.
func TestLast(t *testing.T) {
	for _, c := range []struct {
		l      []api.Flag
		letter byte
		arg    string
		ok     bool
	}{
		{flags("n5", "n6"), 'n', "6", true},
		{flags("a"), 'n', "", false},
		{nil, 'n', "", false},
		{[]api.Flag{}, 0, "", false},
		{flags("n5", "a", "a7"), 'n', "5", true},
		{flags("n5", "a7", "n6", "a8", "b9"), 'n', "6", true},
		{flags("n5", "n"), 'n', "", true},
		{flags("a"), 'a', "", true},
		{flags("an"), 'n', "", false},
		{flags("n5"), 'N', "", false},
		{flags("\x00x", "\xffy"), 0, "x", true},
		{flags("\x00x", "\xffy"), 255, "y", true},
	} {
		before := slices.Clone(c.l)
		if arg, ok := opts.Last(c.l, c.letter); arg != c.arg || ok != c.ok {
			t.Errorf("Last(%v, %q): %q %v, want %q %v", c.l, c.letter, arg, ok, c.arg, c.ok)
		}
		if !slices.Equal(c.l, before) {
			t.Errorf("handed in: %v", c.l)
		}
	}
}

// P1.3: what is a number.
func TestNumber(t *testing.T) {
	for _, c := range []struct {
		s    string
		want int
	}{
		{"12", 12}, {"-007", -7}, {"+0", 0}, {"-0", 0}, {"0", 0}, {"+9", 9}, {"00", 0},
		{"123456789012345678", 123456789012345678}, {"-123456789012345678", -123456789012345678},
		{"999999999999999999", 999999999999999999}, {"+999999999999999999", 999999999999999999}, {"-999999999999999999", -999999999999999999},
		{"000000000000000000", 0}, {"-000000000000000001", -1},
	} {
		if n, ok := opts.Number(c.s); n != c.want || !ok {
			t.Errorf("Number(%q): %d %v, want %d", c.s, n, ok, c.want)
		}
	}
	for i := -1200; i <= 1200; i++ {
		if n, ok := opts.Number(strconv.Itoa(i)); n != i || !ok {
			t.Errorf("Number of %d: %d %v", i, n, ok)
		}
	}
}

// P1.3: what is none.
func TestNoNumber(t *testing.T) {
	for _, s := range []string{
		"", "-", "+", "--", "+-", "-+1", "+-1", "--1", "++1", "1x", "x1", "1-", "1+2", " 1", "1 ", "- 1", "1_0", "0x10", "1.0", "1e3", "1\n", "1\x00", "\xd9\xa1", "12a45",
		"1234567890123456789", "-1234567890123456789", "+1000000000000000000", "0000000000000000000", "-0000000000000000001", "9223372036854775807", "99999999999999999999",
		strings.Repeat("0", 100000), strings.Repeat("-", 18),
	} {
		if n, ok := opts.Number(s); n != 0 || ok {
			t.Errorf("Number(%q): %d %v", s, n, ok)
		}
	}
	for i := range 256 {
		c := byte(i)
		if '0' <= c && c <= '9' {
			continue
		}
		for _, s := range []string{string([]byte{c}), string([]byte{'1', c}), string([]byte{'1', c, '2'}), string([]byte{'-', c})} {
			if n, ok := opts.Number(s); n != 0 || ok {
				t.Errorf("Number(%q): %d %v", s, n, ok)
			}
		}
	}
}
