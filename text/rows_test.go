package text_test

import (
	"strings"
	"testing"
)

// P19.1: cut.
func TestCut(t *testing.T) {
	want(t, []answer{
		told("cut -f 2 b", "in", "y\n2\n"), told("cut -f 1,3 b", "", "x\tz\n1\t3\n"), told("cut -b 1-2", "abc\nd", "ab\nd\n"), told("cut -b 3-,1", "abcd\nx\n\n", "acd\nx\n\n"), told("cut -b 2,1,2-", "abc\n", "abc\n"), told("cut -b9", "abc\n", "\n"), told("cut -b -2", "abc\n", "ab\n"), told("cut -b 1", "", ""), told("cut -f 1", "", ""),
		told("cut -f 2", "a\nb\tc\n", "a\nc\n"), told("cut -s -f 1", "a\nb\tc\n", "b\n"), told("cut -sf 2-", "a\n\n\tb\tc", "b\tc\n"), told("cut -f 9", "a\tb\n", "\n"), told("cut -s -f 9", "a\tb\nc\n", "\n"),
		told("cut -d , -f 2", "a,b\na\tb\n", "b\na\tb\n"), told("cut -d, -f2", "a,b\n", "b\n"), told("cut -f2 -d, -s", "a,b\na\n", "b\n"), told("cut -d · -f 3", "a  b\n", "b\n"), told("cut -d \x00 -f 1", "a\x00b\tc\n", "a\n"), told("cut -d \xff -f 2-", "a\xffb\xffc\n", "b\xffc\n"), told("cut -d ⏎ -f 1", "ab\ncd", "ab\ncd\n"), told("cut -d ⏎ -sf 1", "ab\ncd", ""), told("cut -d - -f 2", "a-b\n", "b\n"),
		told("cut -b 1 c a", "in", "e\n2\n1\n1\n"), told("cut -b 1 - c -", "x\ny", "x\ny\ne\nx\ny\n"), told("cut -b 1-3 -- -x", "", "das\n"), told("cut -b 255-257 bytes", "", "\n\n"), told("cut -b 245- bytes", "", "\n\xff\n"),
		told("cut -f 1 -f 2 b", "", "y\n2\n"), told("cut -b 1 -b 2", "ab\n", "b\n"), told("cut -f x -f 2 b", "", "y\n2\n"), told("cut -d ab -d , -f 2", "a,b\n", "b\n"), told("cut -ss -f 1", "a\nb\tc\n", "b\n"), told("cut -b 2147483647", "ab", "\n"), told("cut -b 1-2147483647", "ab", "ab\n"),
	})
	wantUsage(t, "cut", "cut b", "cut -b", "cut -f", "cut -f x", "cut -b x", "cut -b 0", "cut -f ”", "cut -b 1,", "cut -b 3-2 a", "cut -f 01", "cut -b -", "cut -b 2147483648", "cut -b 1 -f 1", "cut -f 1 -b 1 a", "cut -b 1 -s", "cut -s -b 1 a", "cut -b 1 -d ,", "cut -d , -b 1 a", "cut -s", "cut -d ,", "cut -sd , a", "cut -f 1 -d ab", "cut -f 1 -d ”", "cut -f 1 -d , -d ab", "cut -f 1 -f x", "cut -c 1", "cut -x -f 1", "cut -f 1 -d")
}

// P19.1: fold.
func TestFold(t *testing.T) {
	eighty := strings.Repeat("12345678", 10)
	want(t, []answer{
		told("fold -w 3", "abcdefg\n", "abc\ndef\ng\n"), told("fold", eighty, eighty+"\n"), told("fold", eighty+"x\n", eighty+"\nx\n"), told("fold -w3", "abc\nabcd", "abc\nabc\nd\n"), told("fold -w 1", "ab\n\nc", "a\nb\n\nc\n"), told("fold", "", ""), told("fold", "\n\n", "\n\n"),
		told("fold -sw 4", "ab cd ef\n", "ab \ncd \nef\n"), told("fold -s -w 4", "abcdef\n", "abcd\nef\n"), told("fold -s -w 4", "a\tbcdef\n", "a\t\nbcde\nf\n"), told("fold -w 4", "ab cd ef\n", "ab c\nd ef\n"), told("fold -s", eighty[:79]+" x", eighty[:79]+" \nx\n"), told("fold -ss -w 4", "ab cd\n", "ab \ncd\n"),
		told("fold -w 65536", "ab\n", "ab\n"), told("fold -w 65536 full", "", strings.Repeat("0123456789abcde\n", 4096)), told("fold -w 2 c a - c", "xyz", "en\nd\n2\n10\n1\nxy\nz\nen\nd\n"), told("fold -w 5 -w 2 c", "in", "en\nd\n"), told("fold -w x -w 2 c", "", "en\nd\n"), told("fold -w +2 c", "", "en\nd\n"), told("fold -w 02 -- c", "", "en\nd\n"), told("fold empty", "in", ""), told("fold -w 3 -- -x", "", "das\nh\n"),
	})
	wantUsage(t, "fold -w 0", "fold -w 65537", "fold -w -1", "fold -w x", "fold -w ”", "fold -w", "fold -w 1x", "fold -w 999999999999999999", "fold -w 1000000000000000000", "fold -w 2 -w 0", "fold -w 0 empty", "fold -w 65537 x", "fold -x", "fold -b", "fold -s -w", "fold -3", "fold -sw")
}

// P19.1: nl.
func TestNl(t *testing.T) {
	want(t, []answer{
		told("nl -w 3", "a\nb\n", "  1\ta\n  2\tb\n"), told("nl", "a\n\nb", "     1\ta\n     2\t\n     3\tb\n"), told("nl", "", ""), told("nl -v 9 -w 1", "a\nb\n", "9\ta\n10\tb\n"), told("nl -v 0", "a\n", "     0\ta\n"), told("nl -v0 -w20", "a\n", strings.Repeat(" ", 19)+"0\ta\n"), told("nl -v 99999 -w 5", "a\nb\n", "99999\ta\n100000\tb\n"), told("nl -w 1 -v 2147483647", "a\nb\n", "2147483647\ta\n2147483648\tb\n"), told("nl -w 1 -v 999999999999999999", "a\n", "2147483647\ta\n"),
		told("nl c a", "in", "     1\tend2\n     2\t10\n     3\t1\n"), told("nl -w 2 c - - a", "x\ny", " 1\tendx\n 2\tyx\n 3\ty2\n 4\t10\n 5\t1\n"), told("nl empty", "in", ""), told("nl empty - empty", "in", "     1\tin\n"), told("nl -w 2 -w 1 -v 5 -v 6 c", "", "6\tend\n"), told("nl -w 0 -w 1 -v x -v 6 c", "", "6\tend\n"), told("nl -w +1 -v +0 c", "", "0\tend\n"), told("nl -v -0 c", "", "     0\tend\n"),
		told("nl -w 1", "\x00\xff\r\n", "1\t\x00\xff\r\n"),
	})
	wantUsage(t, "nl -w 0", "nl -w 21", "nl -w -1", "nl -w x", "nl -w", "nl -w ”", "nl -v -1", "nl -v x", "nl -v", "nl -v ”", "nl -v 1000000000000000000", "nl -w 999999999999999999", "nl -v 1 -v -1 a", "nl -w 1 -w 0 x", "nl -x", "nl -b a", "nl -w 3 -v 1x")
}

// P19.1: paste.
func TestPaste(t *testing.T) {
	want(t, []answer{
		told("paste a c", "in", "2\tend\n10\t\n1\t\n"), told("paste -d , a c", "", "2,end\n10,\n1,\n"), told("paste", "a\nb", "a\nb\n"), told("paste -", "a\n\n", "a\n\n"), told("paste", "", ""), told("paste empty", "in", ""), told("paste empty c", "", "\tend\n"), told("paste c empty", "", "end\t\n"),
		told("paste - -", "a\nb\n", "a\ta\nb\tb\n"), told("paste a - a", "x", "2\tx\t2\n10\t\t10\n1\t\t1\n"), told("paste -d ,; c c c c c", "", "end,end;end,end;end\n"), told("paste -d ” a c", "", "2end\n10\n1\n"), told("paste -d ” - - -", "\n\n", "\n\n"), told("paste -d \x00\xff c c c", "", "end\x00end\xffend\n"), told("paste -d ⏎ c c", "", "end\nend\n"), told("paste -d - c c", "", "end-end\n"), told("paste -d\\n c c", "", "end\\end\n"), told("paste -d , -d ; c c", "", "end;end\n"), told("paste -d ,", "a\n", "a\n"), told("paste -- -x c", "", "dash\tend\n"), told("paste a b c", "", "2\tx\ty\tz\tend\n10\t1\t2\t3\t\n1\t\t\n"),
	})
	wantUsage(t, "paste -d", "paste -x", "paste -s a", "paste -d , -x a")
}

// P19.1: uniq.
func TestUniq(t *testing.T) {
	want(t, []answer{
		told("uniq", "a\na\nb\n", "a\nb\n"), told("uniq -c", "a\na\nb\n", "      2 a\n      1 b\n"), told("uniq -d", "a\na\nb\n", "a\n"), told("uniq -u", "a\na\nb\n", "b\n"), told("uniq -du", "a\na\nb\n", ""), told("uniq -u -d", "a\nb\nb\n", ""), told("uniq", "", ""), told("uniq -c", "", ""), told("uniq", "a\nb\na", "a\nb\na\n"), told("uniq", "\n\n", "\n"), told("uniq -c", "a\na", "      2 a\n"), told("uniq -cd", "a\na\nb\n", "      2 a\n"), told("uniq -cu", "a\na\nb\n", "      1 b\n"), told("uniq -cdu", "a\na\nb\n", ""), told("uniq -", "x\nx\n", "x\n"), told("uniq --", "x\nx\n", "x\n"), told("uniq one", "in", "a\nb\nd\n"), told("uniq empty", "in", ""),
		told("uniq -c", strings.Repeat("x\n", 499999), " 499999 x\n"), told("uniq -c", strings.Repeat("\n", 1000000), "1000000 \n"), told("uniq -c -- -x", "", "      1 dash\n"),
		told("uniq runs", "", "k 1 x\nk 1 y\nm 2 x\nk 1 x\n"), told("uniq -f 1 runs", "", "k 1 x\nk 1 y\nm 2 x\nk 1 x\n"), told("uniq -s 4 runs", "", "k 1 x\nk 1 y\nm 2 x\n"), told("uniq -c -f 2 runs", "", "      1 k 1 x\n      1 k 1 y\n      2 m 2 x\n"), told("uniq -c -f 3 runs", "", "      4 k 1 x\n"), told("uniq -f 2 -s 2 -c runs", "", "      4 k 1 x\n"), told("uniq -f1 -s1", "a xb\na yb\n", "a xb\na yb\n"), told("uniq -f1 -s2", "a xb\na yb\n", "a xb\n"), told("uniq -s 1 -u", "ax\nbx\nby\n", "by\n"), told("uniq -d -s 1", "ax\nbx\nby\n", "ax\n"),
		told("uniq -f 0 -s 0", "a\nb\n", "a\nb\n"), told("uniq -f 999999999999999999 -c", "a\nb\n", "      2 a\n"), told("uniq -s 999999999999999999 -c", "a\nb\n", "      2 a\n"), told("uniq -f 1 -f 0", "a x\nb x\n", "a x\nb x\n"), told("uniq -s x -s 1", "ax\nbx\n", "ax\n"), told("uniq -cc", "a\n", "      1 a\n"), told("uniq -c -c -f +0", "a\n", "      1 a\n"),
	})
	wantUsage(t, "uniq a b", "uniq - -", "uniq x y", "uniq -f x", "uniq -f -1", "uniq -s -1", "uniq -s", "uniq -f", "uniq -f ”", "uniq -s 1x", "uniq -f 1 -f x", "uniq -s 1000000000000000000", "uniq -i", "uniq -x a", "uniq -w 1", "uniq a -c", "uniq -- a b")
}
