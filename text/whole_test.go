package text_test

import (
	"strings"
	"testing"

	"toolchest/api"
	"toolchest/text"
)

// P19.1: cat.
func TestCat(t *testing.T) {
	want(t, []answer{
		told("cat", "", ""), told("cat", "x", "x"), told("cat", everyByte(), everyByte()), told("cat -", "in\n", "in\n"), told("cat --", "in\n", "in\n"), told("cat a - c", "in\n", "2\n10\n1\nin\nend"), told("cat - - -", "x", "xxx"), told("cat c - c", "", "endend"),
		told("cat empty", "in", ""), told("cat empty - empty", "in", "in"), told("cat bytes", "", everyByte()), told("cat a a", "in", "2\n10\n1\n2\n10\n1\n"), told("cat /a d/../c link ./d//f", "", "2\n10\n1\nend2\n10\n1\nwithin\n"), told("cat -- -x", "", "dash\n"), told("cat c -x", "", "enddash\n"), told("cat - -x", "in", "indash\n"),
	})
	wantUsage(t, "cat -z", "cat -x", "cat -z a", "cat -n", "cat -a -", "cat --x", "cat ---x")
}

// P19.1: a file that can't be read is told in Err, in order, and the others are gone on with.
func TestUnreadable(t *testing.T) {
	const (
		none = ": no such file or directory\n"
		perm = ": permission denied\n"
	)
	long := strings.Repeat("y", 65)
	far := strings.Repeat("d/../", 300)
	want(t, []answer{
		{"cat x c", "", "end", "cat: x" + none, 1},
		{"cat .", "", "", "cat: .: is a directory\n", 1},
		{"cat c x - secret c", "in", "endinend", "cat: x" + none + "cat: secret" + perm, 1},
		{"cat x x", "in", "", "cat: x" + none + "cat: x" + none, 1},
		{"cat d d/ d/x d/f", "", "within\n", "cat: d: is a directory\ncat: d/: is a directory\ncat: d/x" + none, 1},
		{"cat a/ a/b gone loop ” c", "", "end", "cat: a/: not a directory\ncat: a/b: not a directory\ncat: gone" + none + "cat: loop: too many links\ncat: " + none, 1},
		{"cat shut shut/f secret", "", "", "cat: shut: is a directory\ncat: shut/f" + perm + "cat: secret" + perm, 1},
		{"cat " + long + " " + far + " a\x00 c", "", "end", "cat: " + long + ": name too long\ncat: " + far + ": name too long\ncat: a\x00: name too long\n", 1},
		{"cat a⏎b", "", "", "cat: a\nb" + none, 1},
		{"cat x\xff", "", "", "cat: x\xff" + none, 1},
		{"cat -- -y --", "", "", "cat: -y" + none + "cat: --" + none, 1},
		{"cksum x - d", "", "4294967295 0 -\n", "cksum: x" + none + "cksum: d: is a directory\n", 1},
		{"cut -b 1 x c", "", "e\n", "cut: x" + none, 1},
		{"fold -w 2 c x", "", "en\nd\n", "fold: x" + none, 1},
		{"head x c", "", "==> c <==\nend", "head: x" + none, 1},
		{"head x secret c - y", "in", "==> c <==\nend\n==> - <==\nin", "head: x" + none + "head: secret" + perm + "head: y" + none, 1},
		{"tail x d", "in", "", "tail: x" + none + "tail: d: is a directory\n", 1},
		{"tail c x -", "in", "==> c <==\nend\n==> - <==\nin", "tail: x" + none, 1},
		{"head x", "in", "", "head: x" + none, 1},
		{"nl c x -", "in\n", "     1\tendin\n", "nl: x" + none, 1},
		{"nl x", "in", "", "nl: x" + none, 1},
		{"od x", "in", "0000000\n", "od: x" + none, 1},
		{"od x - d", "A", "0000000 101\n0000001\n", "od: x" + none + "od: d: is a directory\n", 1},
		{"paste c x -", "in\n", "end\tin\n", "paste: x" + none, 1},
		{"paste x y", "in", "", "paste: x" + none + "paste: y" + none, 1},
		{"sort x c a", "", "1\n10\n2\nend\n", "sort: x" + none, 1},
		{"sort x", "in", "", "sort: x" + none, 1},
		{"sort -c x one", "", "", "sort: x" + none, 1},
		{"sort -c a x", "", "", "sort: x" + none + "sort: not in order\n", 1},
		{"uniq x", "in", "", "uniq: x" + none, 1},
		{"uniq -c secret", "in", "", "uniq: secret" + perm, 1},
		{"wc x -", "in\n", "      1       1       3 -\n      1       1       3 total\n", "wc: x" + none, 1},
		{"wc -l x secret", "in", "      0 total\n", "wc: x" + none + "wc: secret" + perm, 1},
		{"wc x", "in", "", "wc: x" + none, 1},
		{"cmp a x", "", "", "cmp: x" + none, 2},
		{"cmp x a", "", "", "cmp: x" + none, 2},
		{"cmp x secret", "", "", "cmp: x" + none + "cmp: secret" + perm, 2},
		{"cmp -s x a", "", "", "cmp: x" + none, 2},
		{"cmp d d", "", "", "cmp: d: is a directory\ncmp: d: is a directory\n", 2},
		{"comm x one", "", "\ta\n\tb\n\tb\n\td\n", "comm: x" + none, 1},
		{"comm one x", "", "a\nb\nb\nd\n", "comm: x" + none, 1},
		{"comm x secret", "", "", "comm: x" + none + "comm: secret" + perm, 1},
		{"comm x a", "", "", "comm: x" + none + "comm: not in order\n", 1},
		{"comm a x", "", "", "comm: x" + none + "comm: not in order\n", 1},
	})
}

// P0.2: what somebody may not read is told nowhere, whatever they try: what is told is the same whatever stands there.
func TestSecret(t *testing.T) {
	open, other := chest(), chest()
	for i, n := range other.Nodes {
		if string(n.Data) == secretText {
			other.Nodes[i].Data = []byte("other\nsecrets\n")
			open.Nodes[i].Mode = 0o644
		}
	}
	seen := 0
	for _, n := range names() {
		for _, words := range [][]string{{"secret"}, {"secret", "secret"}, {"shut/f", "-"}, {"-", "secret"}, {"-s", "secret", "-"}, {"-b", "1-", "secret"}, {"-c", "secret"}, {"-c", "9", "secret"}, {"-w", "1", "secret"}} {
			args := append([]string{n}, words...)
			r := run(t, args, "ssss\n")
			if behind, _ := text.Run(other, user(), args, "ssss\n"); behind != r {
				t.Errorf("%q: %s, %s", args, show(r), show(behind))
			}
			if all, _ := text.Run(open, user(), args, "ssss\n"); all != r {
				seen++
			}
		}
	}
	if seen < 40 {
		t.Error("what may be read is told too seldom:", seen)
	}
	if r, _ := text.Run(chest(), api.Env{Dir: 1}, []string{"cat", "secret", "shut/f"}, ""); r != (api.Result{Out: secretText + secretText}) {
		t.Error("the user 0:", show(r))
	}
}

// P19.1: cksum.
func TestCksum(t *testing.T) {
	want(t, []answer{
		told("cksum", "123456789", "930766865 9\n"), told("cksum", "", "4294967295 0\n"), told("cksum -", "123456789", "930766865 9 -\n"), told("cksum empty - -", "123456789", "4294967295 0 empty\n930766865 9 -\n930766865 9 -\n"), told("cksum ./empty", "in", "4294967295 0 ./empty\n"),
		told("cksum --", "", "4294967295 0\n"), told("cksum -- empty", "", "4294967295 0 empty\n"),
	})
	wantUsage(t, "cksum -x", "cksum -c a", "cksum -a -")
}

// P19.1: cmp.
func TestCmp(t *testing.T) {
	want(t, []answer{
		told("cmp a a", "", ""), told("cmp a link", "", ""), told("cmp - -", "x", ""), told("cmp - -", "", ""), told("cmp empty -", "", ""), told("cmp bytes -", everyByte(), ""), told("cmp -s a a", "", ""),
		{"cmp a b", "", "a b differ: byte 1, line 1\n", "", 1}, {"cmp a -", "2\n10\n2\n", "a - differ: byte 6, line 3\n", "", 1}, {"cmp - a", "2\n1\n1\n", "- a differ: byte 4, line 2\n", "", 1}, {"cmp - ./a", "2x10", "- ./a differ: byte 2, line 1\n", "", 1}, {"cmp -- -x c", "", "-x c differ: byte 1, line 1\n", "", 1},
		{"cmp -s a b", "", "", "", 1}, {"cmp -ss a b", "", "", "", 1}, {"cmp -s -s a b", "", "", "", 1},
		{"cmp c -", "en", "", "cmp: EOF on -\n", 1}, {"cmp - c", "en", "", "cmp: EOF on -\n", 1}, {"cmp c -", "ends", "", "cmp: EOF on c\n", 1}, {"cmp - c", "end\n", "", "cmp: EOF on c\n", 1}, {"cmp empty ./a", "", "", "cmp: EOF on empty\n", 1}, {"cmp ./a empty", "", "", "cmp: EOF on empty\n", 1}, {"cmp a -", "2\n10\n", "", "cmp: EOF on -\n", 1},
		{"cmp -s c -", "en", "", "", 1}, {"cmp -s - c", "", "", "", 1}, {"cmp -s c -", "ends", "", "", 1},
	})
	wantUsage(t, "cmp", "cmp a", "cmp a b c", "cmp -s", "cmp -s a", "cmp -l a b", "cmp -x a b", "cmp a -s b", "cmp -s a b c", "cmp x", "cmp x y z")
}

// P19.1: head and tail.
func TestHeadTail(t *testing.T) {
	twelve := "1\n2\n3\n4\n5\n6\n7\n8\n9\n10\n11\n12\n"
	want(t, []answer{
		told("head", twelve, twelve[:21]), told("tail", twelve, twelve[4:]), told("head -n 1", twelve, "1\n"), told("tail -n 1", twelve, "12\n"), told("head -n0", twelve, ""), told("tail -n 0", twelve, ""), told("head -n 12", twelve, twelve), told("head -n 13", twelve, twelve), told("tail -n 12", twelve, twelve), told("tail -n 99", twelve, twelve),
		told("head -n 999999999999999999", twelve, twelve), told("tail -n 999999999999999999", twelve, twelve), told("head -c 999999999999999999", twelve, twelve), told("tail -c 999999999999999999", twelve, twelve), told("head -n +2", twelve, "1\n2\n"), told("tail -n +2", twelve, "11\n12\n"), told("head -n -0", twelve, ""), told("head -n 007 c", "", "end"),
		told("head -c 3", twelve, "1\n2"), told("tail -c 3", twelve, "12\n"), told("head -c 0", twelve, ""), told("tail -c 0", twelve, ""), told("head -c2 bytes", "", "\x00\x01"), told("tail -c2 bytes", "", "\xfe\xff"), told("head -n 1 bytes", "", "\x00\x01\x02\x03\x04\x05\x06\x07\x08\x09\x0a"),
		told("head -n 1", "a\nb", "a\n"), told("tail -n 1", "a\nb", "b"), told("tail -n 2", "\n\n\n", "\n\n"), told("head", "", ""), told("tail", "", ""), told("head -n 3 -n 1", twelve, "1\n"), told("tail -n1 -n2", twelve, "11\n12\n"), told("head -n x -n 1", twelve, "1\n"), told("head -c 1 -c 2", twelve, "1\n"),
		told("head -n 1 a", "", "2\n"), told("head -n 1 -", "in\n", "in\n"), told("head -n 1 a c", "", "==> a <==\n2\n\n==> c <==\nend"), told("tail -n 1 c a", "", "==> c <==\nend\n==> a <==\n1\n"), told("head -n 1 - - a", "in\n", "==> - <==\nin\n\n==> - <==\nin\n\n==> a <==\n2\n"), told("tail -c 1 a empty ./c", "", "==> a <==\n\n\n==> empty <==\n\n==> ./c <==\nd"),
		told("head -n 0 a c", "", "==> a <==\n\n==> c <==\n"), told("head -- a", "", "2\n10\n1\n"),
	})
	for _, n := range []string{"head ", "tail "} {
		wantUsage(t, n+"-n 1 -c 1", n+"-c 1 -n 1", n+"-n1 -c1 a", n+"-c x -n 1", n+"-n x", n+"-n -1", n+"-c -1", n+"-n ”", n+"-n", n+"-c", n+"-n 1x a", n+"-n 1 -n x", n+"-n 1.5", n+"-n 1,2", n+"-n 1000000000000000000", n+"-c ·1", n+"-1", n+"-q a", n+"-n - a", n+"-n x nosuch")
	}
}

// P19.1: od.
func TestOd(t *testing.T) {
	want(t, []answer{
		told("od", "AB\n", "0000000 101 102 012\n0000003\n"), told("od", "", "0000000\n"), told("od - -", "A", "0000000 101 101\n0000002\n"), told("od empty", "in", "0000000\n"), told("od c - c", "A", "0000000 145 156 144 101 145 156 144\n0000007\n"),
		told("od", strings.Repeat("\x00", 16), "0000000"+strings.Repeat(" 000", 16)+"\n0000020\n"), told("od - c", strings.Repeat("\xff", 15), "0000000"+strings.Repeat(" 377", 15)+" 145\n0000020 156 144\n0000022\n"),
	})
	wantUsage(t, "od -x", "od -c", "od -A d a")
}

// P19.1: tr.
func TestTr(t *testing.T) {
	want(t, []answer{
		told("tr a-c A-C", "cab", "CAB"), told("tr a-c A", "cabd", "AAAd"), told("tr a b", "", ""), told("tr aab xyz", "ab", "xz"), told("tr \\n ,", "a\nb\n", "a,b,"), told("tr [:lower:] [:upper:]", "aZ1", "AZ1"), told("tr a-b AB", "a-b", "A-B"), told("tr · _", "a b", "a_b"), told("tr \\0-\\377 \\0-\\377", everyByte(), everyByte()), told("tr ” ”", "ab", "ab"), told("tr ” x", "ab", "ab"), told("tr a -", "a", "-"), told("tr -- -a b", "-a", "bb"), told("tr - _", "a-b", "a_b"),
		told("tr -c a x", "abca", "axxa"), told("tr -c a-c x-z", "abcd\x00", "abczx"), told("tr -c ” x", "ab\n", "xxx"), told("tr -cc a x", "ab", "ax"), told("tr -c \\0-\\377 x", "ab", "ab"), told("tr -c \\0-\\377 ”", "ab", "ab"),
		told("tr -d b", "abcb", "ac"), told("tr -d a-b", "abcb", "c"), told("tr -d ”", "abc", "abc"), told("tr -cd b", "abcb", "bb"), told("tr -c -d a-b", "abcb\n", "abb"), told("tr -dc ”", "abc", ""), told("tr -d -- -b", "a-b", "a"), told("tr -dd b", "ab", "a"), told("tr -d [:cntrl:]", "a\x00\nb", "ab"),
		told("tr -s b", "abbb", "ab"), told("tr -s a-b", "aabbcc", "abcc"), told("tr -s ”", "aab", "aab"), told("tr -cs b", "aabbcc", "abbc"), told("tr -sc ”", "aabb", "ab"),
		told("tr -s a b", "aabbc", "bc"), told("tr -s ab cd", "aabbccdd", "cdcd"), told("tr -s a-c x", "abcabd", "xd"), told("tr -sc a x", "abcab", "axax"), told("tr -s a b", "ccaa", "ccb"),
		told("tr -ds a b", "abbab", "b"), told("tr -ds a b", "bbabcc", "bcc"), told("tr -s -d a bc", "bcacb", "bcb"), told("tr -cds ab a", "acaab", "ab"), told("tr -dsc b b", "abcb", "b"), told("tr -ds a ”", "aabb", "bb"), told("tr -ds ” b", "aabb", "aab"),
	})
	wantUsage(t, "tr", "tr a", "tr -c a", "tr -d a b", "tr -dc a b", "tr -ds a", "tr -cds a", "tr -d", "tr -s", "tr -s a b c", "tr a b c", "tr -x a b", "tr -d a b c", "tr c-a x", "tr x c-a", "tr [:no:] x", "tr x [:no:]", "tr \\x a", "tr a \\", "tr a ”", "tr -c a ”", "tr -s a ”", "tr -d c-a", "tr -s \\400", "tr -ds a c-a", "tr -ds c-a a", "tr -d -s a", "tr a b -d", "tr "+strings.Repeat("\\0-\\377", 300)+" a")
}

// P19.1: wc.
func TestWc(t *testing.T) {
	want(t, []answer{
		told("wc", "a b\nc\n", "      2       3       6\n"), told("wc", "", "      0       0       0\n"), told("wc -", "a b\nc", "      1       3       5 -\n"), told("wc a", "", "      3       3       7 a\n"), told("wc --", "a", "      0       1       1\n"), told("wc -- -x", "", "      1       1       5 -x\n"),
		told("wc -l", "a b\nc\n", "      2\n"), told("wc -w", "a b\nc\n", "      3\n"), told("wc -c", "a b\nc\n", "      6\n"), told("wc -L", "a b\nc\n", "      3\n"), told("wc -lw", "a b\nc\n", "      2       3\n"), told("wc -wl", "a b\nc\n", "      2       3\n"), told("wc -cl", "a b\nc\n", "      2       6\n"), told("wc -Lc -w", "a b\nc\n", "      3       6       3\n"), told("wc -Lcwl", "a b\nc\n", "      2       3       6       3\n"), told("wc -ll", "a\n", "      1\n"), told("wc -l -l -c", "a\n", "      1       2\n"),
		told("wc -l a c", "", "      3 a\n      0 c\n      3 total\n"), told("wc a - empty", "x y\n", "      3       3       7 a\n      1       2       4 -\n      0       0       0 empty\n      4       5      11 total\n"), told("wc -lwcL b ./c -", "12345", "      2       6      12       5 b\n      0       1       3       3 ./c\n      0       1       5       5 -\n      2       8      20       5 total\n"), told("wc -L c a", "", "      3 c\n      2 a\n      3 total\n"), told("wc -L - -", "", "      0 -\n      0 -\n      0 total\n"),
		told("wc bytes", "", "      1       3     256 bytes\n"), told("wc -c - full", strings.Repeat("x", 1000000), "1000000 -\n  65536 full\n1065536 total\n"), told("wc -cL - -", strings.Repeat("x", 1000000), "1000000 1000000 -\n1000000 1000000 -\n2000000 1000000 total\n"),
		told("wc -c - - - - - - - - - - -", strings.Repeat("x", 1000000), strings.Repeat("1000000 -\n", 11)+"11000000 total\n"),
	})
	wantUsage(t, "wc -x", "wc -lx a", "wc -W", "wc -m")
}
