package text_test

import (
	"strings"
	"testing"

	"toolchest/api"
)

// P19.1: sort: by the whole line.
func TestSort(t *testing.T) {
	want(t, []answer{
		told("sort a", "in", "1\n10\n2\n"), told("sort -n a", "", "1\n2\n10\n"), told("sort -nr a", "", "10\n2\n1\n"), told("sort -r -n a", "", "10\n2\n1\n"), told("sort -r a", "", "2\n10\n1\n"), told("sort", "", ""), told("sort", "b\n\na", "\na\nb\n"), told("sort -", "b\na\n", "a\nb\n"), told("sort --", "b\na\n", "a\nb\n"), told("sort empty", "in", ""), told("sort -- -x a", "", "1\n10\n2\ndash\n"), told("sort -rr a", "", "2\n10\n1\n"),
		told("sort -u", "b\na\nb", "a\nb\n"), told("sort", "b\na\nb", "a\nb\nb\n"), told("sort -f", "b\nA\na\nB\n", "A\na\nB\nb\n"), told("sort", "b\nA\na\nB\n", "A\nB\na\nb\n"), told("sort -fu", "b\na\nA\nB\n", "a\nb\n"), told("sort -b", " b\na\n  a\n", "  a\na\n b\n"), told("sort", " b\na\n  a\n", "  a\n b\na\n"), told("sort -nu", "010\n9\n10\nx\n0\n", "x\n9\n010\n"), told("sort -bu", " a\na\n", " a\n"), told("sort -fr", "a\nB\nc\n", "c\nB\na\n"), told("sort -ur", "a\nb\na\n", "b\na\n"), told("sort", "\xff\n\x00\n\x7f\n", "\x00\n\x7f\n\xff\n"),
		told("sort c a", "in", "1\n10\n2\nend\n"), told("sort c c", "", "end\nend\n"), told("sort -u c c -", "end", "end\n"), told("sort c - a -", "3\n0", "0\n0\n1\n10\n2\n3\n3\nend\n"),
		told("sort", strings.Repeat("x\n", api.MaxLines), strings.Repeat("x\n", api.MaxLines)), told("sort -u", strings.Repeat("x\n", api.MaxLines), "x\n"), told("sort -u - empty", strings.Repeat("\n", api.MaxLines), "\n"),
		{"sort", strings.Repeat("x\n", api.MaxLines+1), "", "sort: too many lines\n", 1}, {"sort -u", strings.Repeat("\n", api.MaxLines+1), "", "sort: too many lines\n", 1}, {"sort - c", strings.Repeat("\n", api.MaxLines), "", "sort: too many lines\n", 1}, {"sort - x -", strings.Repeat("\n", api.MaxLines/2+1), "", "sort: x: no such file or directory\nsort: too many lines\n", 1}, {"sort - - x", strings.Repeat("\n", api.MaxText), "", "sort: x: no such file or directory\nsort: too many lines\n", 1},
	})
	wantUsage(t, "sort -x", "sort -x a", "sort -m a", "sort -o x a", "sort -nx", "sort -n -q")
}

// P19.1: sort by fields.
func TestSortFields(t *testing.T) {
	want(t, []answer{
		told("sort -k 2 -n", "a 10\nb 9\n", "b 9\na 10\n"), told("sort -nk2", "a 10\nb 9\n", "b 9\na 10\n"), told("sort -k 2", "a c x\nb c a\n", "b c a\na c x\n"), told("sort -k 2,2", "b c a\na c x\n", "a c x\nb c a\n"), told("sort -k 1,1 -u", "a 2\na 1\nb 3\n", "a 2\nb 3\n"), told("sort -k 2,3 -u", "x 1 2 3\ny 1 2 4\nz 1 3\n", "x 1 2 3\nz 1 3\n"), told("sort -k 2", "a  y\nb x\n", "a  y\nb x\n"), told("sort -bk 2", "a  y\nb x\n", "b x\na  y\n"),
		told("sort -t : -k 2", "a:z\nb:y\n", "b:y\na:z\n"), told("sort -t: -k2,2 -n", "a:10:x\nb:9:y\n", "b:9:y\na:10:x\n"), told("sort -t : -k 3", "a:z\nb:y\n", "a:z\nb:y\n"), told("sort -t · -k 2", "a  y\nb x\n", "a  y\nb x\n"), told("sort -t \x00 -k 2", "a y\nb x\n", "b x\na y\n"), told("sort -t :", "b:a\na:b\n", "a:b\nb:a\n"), told("sort -t - -k 2", "a-z\nb-y\n", "b-y\na-z\n"), told("sort -t \xff -k 2", "a\xffz\nb\xffy\n", "b\xffy\na\xffz\n"),
		told("sort -k 1000 a", "", "1\n10\n2\n"), told("sort -k 1000,1000 a", "", "1\n10\n2\n"), told("sort -k 1,1000 a", "", "1\n10\n2\n"), told("sort -k 2 -k 1", "a z\nb y\n", "a z\nb y\n"), told("sort -k 1 -k 2", "a z\nb y\n", "b y\na z\n"), told("sort -k x -k 2", "a z\nb y\n", "b y\na z\n"), told("sort -t , -t : -k 2", "a:z\nb:y\n", "b:y\na:z\n"), told("sort -t ab -t : -k 2", "a:z\nb:y\n", "b:y\na:z\n"), told("sort -k +2 -r", "a y\nb z\n", "b z\na y\n"), told("sort -k 02,002", "a z\nb y\n", "b y\na z\n"), told("sort -k 2,+2", "a z\nb y\n", "b y\na z\n"),
	})
	wantUsage(t, "sort -k 0", "sort -k ”", "sort -k", "sort -k x", "sort -k -1", "sort -k 1001", "sort -k 1,", "sort -k ,1", "sort -k ,", "sort -k 1,0", "sort -k 2,1", "sort -k 1,1001", "sort -k 1,x", "sort -k 1,2,3", "sort -k 1.2", "sort -k 1n", "sort -k 1,-2", "sort -k 0,1", "sort -k 999999999999999999", "sort -k 1000000000000000000", "sort -k 1,999999999999999999", "sort -k 2 -k 0 a", "sort -k ·1", "sort -t ab", "sort -t ”", "sort -t", "sort -t ⏎", "sort -t ⏎ -k 1 a", "sort -t : -t ab", "sort -k 1 -t", "sort -c -k 0", "sort -c -t ab x", "sort -c -t ⏎")
}

// P19.1: sort -c.
func TestSortCheck(t *testing.T) {
	const wrong = "sort: not in order\n"
	want(t, []answer{
		{"sort -c a", "", "", wrong, 1}, told("sort -c one", "", ""), told("sort -c", "", ""), told("sort -c empty", "", ""), told("sort -c", "a", ""), told("sort -cn", "9\n10\n", ""), {"sort -c", "9\n10\n", "", wrong, 1}, told("sort -cr", "b\na\n", ""), {"sort -c -r", "a\nb\n", "", wrong, 1}, told("sort -cf", "a\nB\n", ""), {"sort -c", "a\nB\n", "", wrong, 1}, {"sort -cf", "a\nA\n", "", wrong, 1}, told("sort -cb", "a\n b\n", ""), told("sort -ck 2", "b 1\na 2\n", ""), {"sort -ck 2,2 -r", "b 1\na 2\n", "", wrong, 1}, told("sort -c -t : -k 2", "b:1\na:2\n", ""),
		{"sort -cu one", "", "", wrong, 1}, told("sort -cu", "a\nb\n", ""), {"sort -cu", "a\na\n", "", wrong, 1}, {"sort -cfu", "a\nA\n", "", wrong, 1}, {"sort -u -c -n", "1\n01\n", "", wrong, 1}, told("sort -cc one", "", ""),
		told("sort -c one c", "in", ""), {"sort -c c one", "", "", wrong, 1}, {"sort -c one - c", "c", "", wrong, 1}, told("sort -c one - c", "e\n", ""), told("sort -c one empty c", "", ""), {"sort -c c empty one", "", "", wrong, 1}, {"sort -c empty c empty a", "", "", wrong, 1}, told("sort -c c c", "", ""), {"sort -cu c c", "", "", wrong, 1}, {"sort -cu c empty - c", "", "", wrong, 1}, {"sort -c one a", "", "", wrong, 1},
		told("sort -c", strings.Repeat("x\n", api.MaxLines+1), ""), told("sort -c - -", strings.Repeat("x\n", api.MaxText/2), ""), {"sort -c - - a", strings.Repeat("x\n", api.MaxText/2), "", wrong, 1},
	})
}

// P19.1: comm.
func TestComm(t *testing.T) {
	const wrong = "comm: not in order\n"
	want(t, []answer{
		{"comm a b", "", "", wrong, 1}, {"comm a one", "", "", wrong, 1}, {"comm one a", "", "", wrong, 1}, {"comm a -", "", "", wrong, 1}, {"comm one -", "9\n10\n", "", wrong, 1}, {"comm empty a", "in", "", wrong, 1}, {"comm - empty", "a\n\tb", "", wrong, 1},
		told("comm - c", "a\nend\nz\n", "a\n\t\tend\nz\n"), told("comm one two", "", "a\nb\n\t\tb\n\tc\n\t\td\n"), told("comm two one", "", "\ta\n\tb\n\t\tb\nc\n\t\td\n"), told("comm - two", "b\nb\nb\n", "b\nb\n\t\tb\n\tc\n\td\n"), told("comm two -", "b\nb\nb\n", "\tb\n\tb\n\t\tb\nc\nd\n"), told("comm -- - -", "x\nx\ny", "\t\tx\n\t\tx\n\t\ty\n"), told("comm empty -", "a\nb", "\ta\n\tb\n"), told("comm - empty", "\t\na b", "\t\na b\n"), told("comm empty empty", "in", ""), told("comm - two", "", "\tb\n\tc\n\td\n"), told("comm - two", "\n", "\n\tb\n\tc\n\td\n"),
		told("comm - c", "a\x00\nb\xff\nend", "a\x00\nb\xff\n\t\tend\n"), told("comm c -", "F\nend ", "\tF\nend\n\tend \n"), told("comm - empty", strings.Repeat("\n", api.MaxLines+1), strings.Repeat("\n", api.MaxLines+1)),
	})
	wantUsage(t, "comm", "comm one", "comm one two c", "comm -1 one two", "comm -x one two", "comm --", "comm -- one", "comm one two -x", "comm x", "comm x y z")
}
