package text_test

import (
	"slices"
	"strings"
	"testing"

	"toolchest/api"
	"toolchest/text"
)

// P19.1: the chapter's examples.
func TestExamples(t *testing.T) {
	want(t, []answer{
		told("sort -n", "10\n9\n", "9\n10\n"),
		{"cat x", "", "", "cat: x: no such file or directory\n", 1},
		{"head -n x", "", "", "head: usage\n", 2},
		told("tr a-c A-C", "cab", "CAB"),
	})
	if r, ok := text.Run(chest(), user(), []string{"nosuch"}, ""); ok || r != (api.Result{}) {
		t.Error("nosuch:", r, ok)
	}
}

// P19.1: false, if there are no words, too many, one that is too long, or a first one that is no command; nothing is told then.
func TestNoCommand(t *testing.T) {
	long := strings.Repeat("x", api.MaxWord+1)
	l := [][]string{nil, {}, {""}, {"nosuch"}, {"Cat"}, {"cat "}, {" cat"}, {"cat\x00"}, {"cats"}, {"ca"}, {"-"}, {"--"}, {"mkdir"}, {"find"}, {"cd"}, {"total"}, {long}, make([]string, api.MaxArgs+1)}
	for _, n := range names() {
		many := slices.Repeat([]string{n}, api.MaxArgs+1)
		l = append(l, many, []string{n, long}, append(slices.Clone(many[:api.MaxArgs-1]), long), []string{"x", n}, []string{strings.ToUpper(n)})
	}
	for _, args := range l {
		for _, in := range []string{"", "a\n", strings.Repeat("x", api.MaxText+1)} {
			if r, ok := text.Run(chest(), user(), args, in); ok || r != (api.Result{}) {
				t.Errorf("%.60q: %v %s", args, ok, show(r))
			}
		}
	}
}

// P19.1: as many words, and as long ones, as may be.
func TestManyWords(t *testing.T) {
	word := strings.Repeat("x", api.MaxWord)
	full := slices.Repeat([]string{word}, api.MaxArgs)
	full[0] = "echo"
	if r := run(t, full, ""); r != (api.Result{Out: strings.Repeat(word+" ", api.MaxArgs-2) + word + "\n"}) {
		t.Errorf("echo: %s", show(r))
	}
	full[0] = "cat"
	if r := run(t, full, ""); r != (api.Result{Err: strings.Repeat("cat: "+word+": name too long\n", api.MaxArgs-1), Status: 1}) {
		t.Errorf("cat: %s", show(r))
	}
	full[0] = "false"
	if r := run(t, full, ""); r != (api.Result{Status: 1}) {
		t.Errorf("false: %s", show(r))
	}
	flags := append([]string{"sort", "-t", ":"}, slices.Repeat([]string{"-" + strings.Repeat("nr", (api.MaxWord-1)/2)}, api.MaxArgs-3)...)
	if r := run(t, flags, "9:\n10:\n"); r != (api.Result{Out: "10:\n9:\n"}) {
		t.Errorf("sort: %s", show(r))
	}
	for _, line := range takers() {
		args := words(line)
		for len(args) < api.MaxArgs {
			args = append(args, "-")
		}
		if r := run(t, args, "x\n"); r.Out == "" || r.Err != "" || r.Status != 0 {
			t.Errorf("%s of many: %s", line, show(r))
		}
	}
	all := append([]string{"wc", "-l"}, slices.Repeat([]string{"-"}, api.MaxArgs-2)...)
	if r := run(t, all, "a\n"); r != (api.Result{Out: strings.Repeat("      1 -\n", api.MaxArgs-2) + "    254 total\n"}) {
		t.Errorf("wc: %s", show(r))
	}
}

// P19.1: Names.
func TestNames(t *testing.T) {
	l := text.Names()
	if !slices.Equal(l, names()) {
		t.Errorf("Names: %q", l)
	}
	for i := range l[:cap(l)] { // new memory each time, spare room too
		l[:cap(l)][i] = "changed"
	}
	if l = text.Names(); !slices.Equal(l, names()) {
		t.Errorf("Names again: %q", l)
	}
	for _, n := range l {
		if _, ok := text.Run(chest(), user(), []string{n}, ""); !ok {
			t.Error("Names tells what is no command:", n)
		}
	}
}

// P19.1: in of just MaxText bytes, and of one more: whatever the command and its words, that is too long.
func TestLongIn(t *testing.T) {
	just, more := strings.Repeat("x", api.MaxText), strings.Repeat("x", api.MaxText+1)
	for _, n := range names() {
		for _, args := range [][]string{{n}, {n, "a"}, {n, "-q"}, {n, "a", "b", "c"}, {n, "x"}, {n, "-n", "x"}} {
			r := run(t, args, more)
			if r != (api.Result{Err: n + ": too long\n", Status: 1}) {
				t.Errorf("%q: %s", args, show(r))
			}
		}
	}
	for line, out := range map[string]string{"cat": just, "wc": "      0       1 1048576\n", "tr x y": strings.Repeat("y", api.MaxText), "true": "", "echo": "\n", "head -c 3": "xxx", "cat a": "2\n10\n1\n", "cut -b 1": "x\n"} {
		r := run(t, words(line), just)
		if r != (api.Result{Out: out}) {
			t.Errorf("%s: %s", line, show(r))
		}
	}
}

// P19.1: Out of just MaxText bytes is told; of one more it is not, and nothing else is.
func TestLongOut(t *testing.T) {
	x := func(n int) string { return strings.Repeat("x", n) }
	half := api.MaxText / 2
	for _, c := range []struct {
		line, just, more string
		size             int
	}{
		{"cat", x(api.MaxText), "", api.MaxText},
		{"cat -", x(api.MaxText), "", api.MaxText},
		{"cat - c", x(api.MaxText - 3), x(api.MaxText - 2), api.MaxText},
		{"cat c -", x(api.MaxText - 3), x(api.MaxText - 2), api.MaxText},
		{"cat - -", x(half), x(half + 1), api.MaxText},
		{"cut -b 1-", x(api.MaxText - 1), x(api.MaxText), api.MaxText},
		{"cut -f 1 - c", x(api.MaxText - 5), x(api.MaxText - 4), api.MaxText},
		{"fold -w 65536", x(api.MaxText - 16), x(api.MaxText - 15), api.MaxText},
		{"fold -w 1", x(half), x(half + 1), api.MaxText},
		{"head", x(api.MaxText), "", api.MaxText},
		{"head - empty", x(api.MaxText - 10 - 15), x(api.MaxText - 24), api.MaxText},
		{"tail -c 1048576 - c", x(api.MaxText - 10 - 14), x(api.MaxText - 23), api.MaxText},
		{"nl -w 1", x(api.MaxText - 3), x(api.MaxText - 2), api.MaxText},
		{"nl", strings.Repeat("\n", api.MaxText/8), strings.Repeat("\n", api.MaxText/8) + "\n", api.MaxText},
		{"od", x(233008), x(233008 + 15), 233008/16*72 + 8},
		{"paste", x(api.MaxText - 1), x(api.MaxText), api.MaxText},
		{"paste - c", x(api.MaxText - 5), x(api.MaxText - 4), api.MaxText},
		{"paste -d ” - c", x(api.MaxText - 4), x(api.MaxText - 3), api.MaxText},
		{"paste empty - -", strings.Repeat("\n", api.MaxText/3), strings.Repeat("\n", api.MaxText/3+1), api.MaxText / 3 * 3},
		{"sort", x(api.MaxText - 1), x(api.MaxText), api.MaxText},
		{"sort -u - c", x(api.MaxText - 5), x(api.MaxText - 4), api.MaxText},
		{"uniq", x(api.MaxText - 1), x(api.MaxText), api.MaxText},
		{"uniq -c", x(api.MaxText - 9), x(api.MaxText - 8), api.MaxText},
		{"comm - empty", x(api.MaxText - 1), x(api.MaxText), api.MaxText},
		{"comm empty -", x(api.MaxText - 2), x(api.MaxText - 1), api.MaxText},
		{"comm - -", x(api.MaxText - 3), x(api.MaxText - 2), api.MaxText},
		{"tr x y", x(api.MaxText), "", api.MaxText},
	} {
		args := words(c.line)
		if r := run(t, args, c.just); len(r.Out) != c.size || r.Err != "" || r.Status != 0 {
			t.Errorf("%s: %d bytes, %q %d", c.line, len(r.Out), r.Err, r.Status)
		}
		if r := run(t, args, c.more); c.more != "" && r != (api.Result{Err: args[0] + ": too long\n", Status: 1}) {
			t.Errorf("%s: %d bytes, %q %d", c.line, len(r.Out), r.Err, r.Status)
		}
	}
}

// P19.1: what is too long has just that in Err, whatever else could not be read; what is not told is not too long.
func TestLongAmongOthers(t *testing.T) {
	just := strings.Repeat("x", api.MaxText)
	for _, line := range takers() {
		args := append(words(line), "x", "-", "secret", "-", "d")
		r := run(t, args, just)
		tooLong := api.Result{Err: args[0] + ": too long\n", Status: 1}
		switch args[0] {
		case "cksum", "wc":
			if r.Out == "" || !strings.HasSuffix(r.Err, ": d: is a directory\n") || r.Status != 1 {
				t.Errorf("%s: %s", line, show(r))
			}
		default:
			if r != tooLong {
				t.Errorf("%s: %s", line, show(r))
			}
		}
	}
	want(t, []answer{
		{"sort -c - x -", just, "", "sort: x: no such file or directory\n", 1},
		told("head -c 5 - -", just, "==> - <==\nxxxxx\n==> - <==\nxxxxx"),
		told("cut -b 2 - - -", just, "x\nx\nx\n"),
		told("cut -sf 1 - - -", just, ""),
		told("cmp - -", just, ""),
		{"cmp - c", just, "- c differ: byte 1, line 1\n", "", 1},
	})
}

// P19.1, R1: as many texts as there may be, all of them as long, and with as many lines, as can be.
func TestVeryMuch(t *testing.T) {
	ends := strings.Repeat("\n", api.MaxText)
	for _, line := range takers() {
		args := words(line)
		for len(args) < api.MaxArgs {
			args = append(args, "-")
		}
		r := run(t, args, ends)
		switch args[0] {
		case "cksum", "head", "tail", "wc":
			if r.Out == "" || r.Err != "" || r.Status != 0 {
				t.Errorf("%s: %s", line, show(r))
			}
		case "sort":
			if r != (api.Result{Err: "sort: too many lines\n", Status: 1}) {
				t.Errorf("%s: %s", line, show(r))
			}
		default:
			if r != (api.Result{Err: args[0] + ": too long\n", Status: 1}) {
				t.Errorf("%s: %s", line, show(r))
			}
		}
	}
	alike := append([]string{"paste", "-d", ""}, slices.Repeat([]string{"-"}, api.MaxArgs-3)...)
	if r := run(t, alike, ends); r != (api.Result{Out: ends}) {
		t.Errorf("paste with nothing between: %s", show(r))
	}
}

// P19.1: with a tree that may not be, or somebody who may not be, files can't be read; what comes in can.
func TestNobody(t *testing.T) {
	spoilt := chest()
	spoilt.Nodes[2].Mode = -1
	for _, c := range []struct {
		tree api.Tree
		env  api.Env
	}{
		{spoilt, user()}, {api.Tree{}, user()}, {api.Tree{Nodes: make([]api.Node, 2)}, user()}, {chest(), api.Env{}}, {chest(), api.Env{User: -1, Dir: 1}}, {chest(), api.Env{Group: 65536, Dir: 1}},
		{chest(), api.Env{Mask: 512, Dir: 1}}, {chest(), api.Env{Dir: 2}}, {chest(), api.Env{Dir: 1 << 40}}, {chest(), api.Env{Dir: -1}},
	} {
		for line, r := range map[string]api.Result{
			"cat a - x ”":         {Out: "in\n", Err: "cat: a: invalid argument\ncat: x: invalid argument\ncat: : invalid argument\n", Status: 1},
			"cat":                 {Out: "in\n"},
			"wc -l a -":           {Out: "      1 -\n      1 total\n", Err: "wc: a: invalid argument\n", Status: 1},
			"cmp - a":             {Err: "cmp: a: invalid argument\n", Status: 2},
			"cmp - -":             {},
			"basename /a/b":       {Out: "b\n"},
			"tr i o":              {Out: "on\n"},
			"uniq a":              {Err: "uniq: a: invalid argument\n", Status: 1},
			"head -n x a":         {Err: "head: usage\n", Status: 2},
			"paste a - d":         {Out: "in\n", Err: "paste: a: invalid argument\npaste: d: invalid argument\n", Status: 1},
			"sort -c a":           {Err: "sort: a: invalid argument\n", Status: 1},
			"dirname /a/nobody/x": {Out: "/a/nobody\n"},
		} {
			if got, ok := text.Run(c.tree, c.env, words(line), "in\n"); !ok || got != r {
				t.Errorf("%s: %v %s", line, ok, show(got))
			}
		}
	}
}
