package text_test

import (
	"strings"
	"testing"

	"toolchest/paths"
)

// P19.1: basename.
func TestBasename(t *testing.T) {
	want(t, []answer{
		told("basename /a/b.c", "in", "b.c\n"), told("basename /a/b.c .c", "", "b\n"), told("basename b.c b.c", "", "b.c\n"), told("basename /a/.c .c", "", ".c\n"), told("basename a.c c", "", "a.\n"),
		told("basename a.c .d", "", "a.c\n"), told("basename a.c ”", "", "a.c\n"), told("basename a.c a", "", "a.c\n"), told("basename a.c.c .c", "", "a.c\n"), told("basename /a/b.c// .c", "", "b\n"), told("basename a.c xa.c", "", "a.c\n"),
		told("basename ”", "", ".\n"), told("basename ” .", "", ".\n"), told("basename /", "", "/\n"), told("basename /// /", "", "/\n"), told("basename .. .", "", ".\n"), told("basename a b", "", "a\n"),
		told("basename -", "", "-\n"), told("basename -- -x", "", "-x\n"), told("basename - -", "", "-\n"), told("basename a⏎b b", "", "a\n\n"), told("basename a -c", "", "a\n"), told("basename a-c -c", "", "a\n"), told("basename a --", "", "a\n"), told("basename nosuch/x", "", "x\n"),
	})
	wantUsage(t, "basename", "basename --", "basename a b c", "basename -x", "basename -x a", "basename -- a b c", "basename a b --")
}

// P19.1: dirname.
func TestDirname(t *testing.T) {
	want(t, []answer{
		told("dirname /a/b", "in", "/a\n"), told("dirname a/b/", "", "a\n"), told("dirname a", "", ".\n"), told("dirname /a", "", "/\n"), told("dirname /", "", "/\n"), told("dirname //a//b//", "", "//a\n"), told("dirname ”", "", ".\n"), told("dirname a//", "", ".\n"),
		told("dirname -", "", ".\n"), told("dirname -- -/x", "", "-\n"), told("dirname a⏎/b", "", "a\n\n"), told("dirname nosuch/x", "", "nosuch\n"), told("dirname ///", "", "/\n"),
	})
	wantUsage(t, "dirname", "dirname --", "dirname a b", "dirname -x", "dirname -x /a", "dirname a --")
}

// P19.1: basename and dirname tell what paths.Base and paths.Dir do, of all short paths.
func TestPathsOfAllKinds(t *testing.T) {
	l := []string{""}
	for from := 0; len(l) < 4000; {
		to := len(l)
		for _, s := range l[from:to] {
			l = append(l, s+"/", s+"a", s+".", s+"\n")
		}
		from = to
	}
	l = append(l, strings.Repeat("/", 4096), strings.Repeat("a/", 2048), strings.Repeat("/a", 2048), "a\x00b/\xff")
	for _, s := range l {
		if r := run(t, []string{"basename", s}, ""); r.Out != paths.Base(s)+"\n" || r.Err != "" || r.Status != 0 {
			t.Errorf("basename %.60q: %s", s, show(r))
		}
		if r := run(t, []string{"dirname", s}, ""); r.Out != paths.Dir(s)+"\n" || r.Err != "" || r.Status != 0 {
			t.Errorf("dirname %.60q: %s", s, show(r))
		}
	}
}

// P19.1: echo, true and false take no options: all words count, or none does.
func TestPlain(t *testing.T) {
	want(t, []answer{
		told("echo", "in", "\n"), told("echo a", "", "a\n"), told("echo a -n b", "", "a -n b\n"), told("echo -n", "", "-n\n"), told("echo -- a", "", "-- a\n"), told("echo - --", "", "- --\n"), told("echo ”", "", "\n"), told("echo ” ” a", "", "  a\n"), told("echo a⏎ ·", "", "a\n  \n"), told("echo \\n \x00\xff", "", "\\n \x00\xff\n"),
		told("true", "in", ""), told("true x", "", ""), told("true -x --", "", ""), told("true --help ”", "", ""),
		{"false", "in", "", "", 1}, {"false x", "", "", "", 1}, {"false -x --", "", "", "", 1}, {"false true", "", "", "", 1},
	})
}
