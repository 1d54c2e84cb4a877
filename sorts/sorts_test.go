package sorts_test

import (
	"fmt"
	"math/rand"
	"regexp"
	"slices"
	"strings"
	"testing"

	"toolchest/api"
	"toolchest/keys"
	"toolchest/sorts"
)

const (
	minInt = -1 << 63
	maxInt = 1<<63 - 1
)

func list(l ...string) []string { return l }

// words: a list of lines, told with blanks between them.
func words(s string) []string { return strings.Fields(s) }

// wrongOrders: one for each way in which an order may not be.
func wrongOrders() []api.Order {
	return []api.Order{
		{To: 1}, {From: -1}, {From: minInt}, {From: 1001}, {From: maxInt}, {From: 3, To: 2}, {From: 1, To: 1001}, {From: 1, To: -1}, {Sep: '\n'},
		{From: 1, To: 2, Sep: '\n'}, {Number: true, To: 1}, {Reverse: true, From: -1}, {Fold: true, Blanks: true, From: 1001},
	}
}

// manners: an order with each of Number, Fold, Blanks and Reverse, alone and together.
func manners(o api.Order) []api.Order {
	var l []api.Order
	for bits := range 16 {
		o.Number, o.Fold, o.Blanks, o.Reverse = bits&1 != 0, bits&2 != 0, bits&4 != 0, bits&8 != 0
		l = append(l, o)
	}
	return l
}

// rightOrders: by the whole line and by keys, in all manners.
func rightOrders() []api.Order {
	var l []api.Order
	for _, o := range []api.Order{{}, {From: 1, To: 1}, {From: 2}, {From: 2, To: 2, Sep: ':'}, {From: 2, To: 3, Sep: 'a'}, {Sep: ':'}, {From: 1000, To: 1000}} {
		l = append(l, manners(o)...)
	}
	return l
}

// comesAhead is the chapter's word, as it stands there.
func comesAhead(o api.Order, a, b string) bool {
	n := keys.Compare(o, a, b)
	if n == 0 && o.Reverse {
		return a > b
	}
	return n == -1 || n == 0 && a < b
}

// slowSort takes, again and again, the first line that none comes ahead of.
func slowSort(o api.Order, l []string, unique bool) []string {
	left := slices.Clone(l)
	if unique {
		left = slowFirst(o, left)
	}
	var sorted []string
	for len(left) > 0 {
		at := 0
		for i := range left {
			if comesAhead(o, left[i], left[at]) {
				at = i
			}
		}
		sorted = append(sorted, left[at])
		left = slices.Delete(left, at, at+1)
	}
	return sorted
}

// slowFirst: the lines that none of those that came ahead is like.
func slowFirst(o api.Order, l []string) []string {
	var first []string
	for i, line := range l {
		isLike := func(other string) bool { return keys.Compare(o, line, other) == 0 }
		if !slices.ContainsFunc(l[:i], isLike) {
			first = append(first, line)
		}
	}
	return first
}

// slowCheck asks all pairs that stand side by side, from the last one on.
func slowCheck(o api.Order, l []string, unique bool) int {
	at := -1
	for i := len(l) - 1; i > 0; i-- {
		if unique && keys.Compare(o, l[i-1], l[i]) != -1 || !unique && comesAhead(o, l[i], l[i-1]) {
			at = i
		}
	}
	return at
}

func wantSort(t *testing.T, o api.Order, l []string, unique bool, want []string) {
	t.Helper()
	if got, e := sorts.Sort(o, l, unique); e != api.OK || !slices.Equal(got, want) {
		t.Errorf("Sort(%+v, %q, %v): %q %d, want %q", o, l, unique, got, e, want)
	}
}

func wantSortError(t *testing.T, o api.Order, l []string, want api.Errno) {
	t.Helper()
	for _, unique := range []bool{false, true} {
		if got, e := sorts.Sort(o, l, unique); e != want || len(got) != 0 {
			t.Errorf("Sort(%+v, %d lines, %v): %d lines, %d, want %d", o, len(l), unique, len(got), e, want)
		}
	}
}

func wantCheck(t *testing.T, o api.Order, l []string, unique bool, want int) {
	t.Helper()
	if got := sorts.Check(o, l, unique); got != want {
		t.Errorf("Check(%+v, %q, %v): %d, want %d", o, l, unique, got, want)
	}
}

func wantMerge(t *testing.T, o api.Order, l [][]string, want []string) {
	t.Helper()
	if got, e := sorts.Merge(o, l); e != api.OK || !slices.Equal(got, want) {
		t.Errorf("Merge(%+v, %q): %q %d, want %q", o, l, got, e, want)
	}
}

func wantMergeError(t *testing.T, o api.Order, l [][]string, want api.Errno) {
	t.Helper()
	if got, e := sorts.Merge(o, l); e != want || len(got) != 0 {
		t.Errorf("Merge(%+v, %d lists): %d lines, %d, want %d", o, len(l), len(got), e, want)
	}
}

// wantRuns: each run is told as how many, a blank, its line.
func wantRuns(t *testing.T, l []string, fields, bytes int, want ...string) {
	t.Helper()
	var told []string
	for _, r := range sorts.Runs(l, fields, bytes) {
		told = append(told, fmt.Sprintf("%d %s", r.N, r.Line))
	}
	if !slices.Equal(told, want) {
		t.Errorf("Runs(%q, %d, %d): %q, want %q", l, fields, bytes, told, want)
	}
}

func wantComm(t *testing.T, a, b, one, two, both []string) {
	t.Helper()
	x, y, z := sorts.Comm(a, b)
	if !slices.Equal(x, one) || !slices.Equal(y, two) || !slices.Equal(z, both) {
		t.Errorf("Comm(%q, %q): %q %q %q, want %q %q %q", a, b, x, y, z, one, two, both)
	}
}

// P6.1: the chapter's examples.
func TestSortExamples(t *testing.T) {
	wantSort(t, api.Order{}, words("b a c a"), false, words("a a b c"))
	wantSort(t, api.Order{}, words("b a c a"), true, words("a b c"))
	wantSort(t, api.Order{Reverse: true}, words("a b"), false, words("b a"))
	wantSort(t, api.Order{Number: true}, words("10 9 09 9"), false, words("09 9 9 10"))
	wantSort(t, api.Order{Number: true}, words("10 9 09 9"), true, words("9 10"))
	wantSort(t, api.Order{Fold: true}, words("b A a"), false, words("A a b"))
}

// P6.1: no line, one line, lines that are all the same.
func TestSortFew(t *testing.T) {
	for _, o := range rightOrders() {
		for _, unique := range []bool{false, true} {
			wantSort(t, o, nil, unique, nil)
			wantSort(t, o, list(), unique, nil)
			for _, line := range list("", "a", " ", "a:b", "x y") {
				wantSort(t, o, list(line), unique, list(line))
			}
		}
		same := slices.Repeat(list("a b:c"), 9)
		wantSort(t, o, same, false, same)
		wantSort(t, o, same, true, same[:1])
	}
}

// P6.1: lines that are alike but not the same come by their bytes, with Reverse the greater ones ahead; unique keeps the one that came first.
func TestSortAlike(t *testing.T) {
	for _, c := range []struct {
		o                api.Order
		l, sorted, first []string
	}{
		{api.Order{Fold: true}, words("b a B A b"), words("A a B b b"), words("a b")},
		{api.Order{Fold: true}, words("A a"), words("A a"), words("A")},
		{api.Order{Fold: true, Reverse: true}, words("b a B A b"), words("b b B a A"), words("b a")},
		{api.Order{Number: true}, words("1.0 01 1 x 0 -0 2"), words("-0 0 x 01 1 1.0 2"), words("x 1.0 2")},
		{api.Order{Number: true, Reverse: true}, words("1.0 01 1 x 0 -0 2"), words("2 1.0 1 01 x 0 -0"), words("2 1.0 x")},
		{api.Order{Blanks: true}, list("b", " a", "a", "\ta", "  b"), list("\ta", " a", "a", "  b", "b"), list(" a", "b")},
		{api.Order{Blanks: true, Reverse: true}, list("b", " a", "a", "\ta", "  b"), list("b", "  b", "a", " a", "\ta"), list("b", " a")},
		{api.Order{From: 2, To: 2, Sep: ':'}, words("z:1 a:2 b:1:x b:1 c:0"), words("c:0 b:1 b:1:x z:1 a:2"), words("c:0 z:1 a:2")},
		{api.Order{From: 2, To: 2, Sep: ':', Reverse: true}, words("z:1 a:2 b:1:x b:1 c:0"), words("a:2 z:1 b:1:x b:1 c:0"), words("a:2 z:1 c:0")},
		{api.Order{From: 2, Number: true}, list("x 10", "y 9", "b 10", "c"), list("c", "y 9", "b 10", "x 10"), list("c", "y 9", "x 10")},
		{api.Order{From: 3, Sep: ':'}, words("b a c a"), words("a a b c"), words("b")},
		{api.Order{From: 3, Sep: ':', Reverse: true}, words("b a c a"), words("c b a a"), words("b")},
		{api.Order{Fold: true, Blanks: true, From: 1, To: 1, Sep: ':'}, words("B:2 a:1 b:1 A:2"), words("A:2 a:1 B:2 b:1"), words("a:1 B:2")},
		{api.Order{}, list("b", "", "ab", "a", "\xff", "a\x00", "\x7f", ""), list("", "", "a", "a\x00", "ab", "b", "\x7f", "\xff"), list("", "a", "a\x00", "ab", "b", "\x7f", "\xff")},
	} {
		wantSort(t, c.o, c.l, false, c.sorted)
		wantSort(t, c.o, c.l, true, c.first)
	}
}

// P6.1, R2: which orders, how many lines are refused, and which error comes where two could.
func TestSortErrors(t *testing.T) {
	many := make([]string, api.MaxLines+1)
	for _, o := range wrongOrders() {
		for _, l := range [][]string{nil, words("a"), words("b a"), many} {
			wantSortError(t, o, l, api.ErrArg)
		}
	}
	wantSortError(t, api.Order{}, many, api.ErrLimit)
	wantSortError(t, api.Order{Number: true, From: 2, Sep: ':'}, many, api.ErrLimit)
	wantSort(t, api.Order{}, many[1:], false, many[1:])
	wantSort(t, api.Order{}, many[1:], true, list(""))
	wantSort(t, api.Order{From: 1000, To: 1000}, words("b a"), false, words("a b"))
}

// numbered: so many lines, each one once, in an order that looks like none.
func numbered(n int) []string {
	l := make([]string, n)
	for i, at := range rand.New(rand.NewSource(6)).Perm(n) {
		l[i] = fmt.Sprintf("x %06d", at)
	}
	return l
}

// P6.1: as many lines as there may be, at all of which something is to be done.
func TestSortMany(t *testing.T) {
	l := numbered(api.MaxLines)
	want := slices.Sorted(slices.Values(l))
	back := slices.Clone(want)
	slices.Reverse(back)
	wantSort(t, api.Order{From: 2, Number: true}, l, false, want)
	wantSort(t, api.Order{From: 2, Sep: ' '}, back, true, want)
	wantSort(t, api.Order{Reverse: true}, want, false, back)
	wantSort(t, api.Order{Reverse: true}, back, true, back)
	twice := append(slices.Clone(l[:api.MaxLines/2]), l[:api.MaxLines/2]...)
	once := slices.Sorted(slices.Values(l[:api.MaxLines/2]))
	wantSort(t, api.Order{Fold: true}, twice, true, once)
	wantSort(t, api.Order{}, twice, false, slices.Sorted(slices.Values(twice)))
}

// shortLists: all lists of at most so many out of some lines.
func shortLists(some []string, most int) [][]string {
	all := [][]string{nil}
	begin := 0
	for range most {
		end := len(all)
		for _, l := range all[begin:end] {
			for _, line := range some {
				all = append(all, append(slices.Clone(l), line))
			}
		}
		begin = end
	}
	return all
}

// someLines: of which many are alike by some order.
func someLines() []string {
	return list("", "a", "A", " a", "9", "09", "x:9", "y:9", "b 10", "b\t9:1")
}

// P6.1, P6.2, P6.6: all short lists, held against another way; what is sorted is in order, and sorted again stays as it is.
func TestSortShort(t *testing.T) {
	lists := append(shortLists(someLines(), 2), shortLists(someLines()[1:7], 3)...)
	for _, o := range rightOrders() {
		for _, l := range lists {
			for _, unique := range []bool{false, true} {
				want := slowSort(o, l, unique)
				wantSort(t, o, l, unique, want)
				wantSort(t, o, want, unique, want)
				wantCheck(t, o, want, unique, -1)
				wantCheck(t, o, l, unique, slowCheck(o, l, unique))
			}
			if t.Failed() {
				return
			}
		}
	}
}

// longLists: of lines out of some, picked by chance that is always the same.
func longLists(some []string, n int) [][]string {
	chance := rand.New(rand.NewSource(66))
	all := make([][]string, n)
	for i := range all {
		for range chance.Intn(60) {
			all[i] = append(all[i], some[chance.Intn(len(some))])
		}
	}
	return all
}

// P6.1, P6.6: longer lists; in whatever order lines come, what is not unique comes out alike.
func TestSortLong(t *testing.T) {
	chance := rand.New(rand.NewSource(666))
	for _, o := range rightOrders() {
		for _, l := range longLists(append(someLines(), "aa", "Aa", "aA", "-1", "-1.0", "1e5", "x:10", "x:9:2"), 8) {
			want := slowSort(o, l, false)
			for range 3 {
				wantSort(t, o, l, false, want)
				wantSort(t, o, l, true, slowSort(o, l, true))
				chance.Shuffle(len(l), func(i, j int) { l[i], l[j] = l[j], l[i] })
			}
			if t.Failed() {
				return
			}
		}
	}
}

// P6.6: sorted lines are the same lines as ahead, each as often.
func TestSortSameLines(t *testing.T) {
	for _, o := range rightOrders() {
		for _, l := range longLists(someLines(), 20) {
			sorted, _ := sorts.Sort(o, l, false)
			slices.Sort(sorted)
			slices.Sort(l)
			if !slices.Equal(sorted, l) {
				t.Fatalf("Sort(%+v): other lines: %q, of %q", o, sorted, l)
			}
		}
	}
}

// P6.2: the chapter's examples, and lists of which the first, the last, or one between is not in order.
func TestCheck(t *testing.T) {
	fold, number, reverse := api.Order{Fold: true}, api.Order{Number: true}, api.Order{Reverse: true}
	second := api.Order{From: 2, To: 2, Sep: ':'}
	for _, c := range []struct {
		o      api.Order
		l      []string
		unique bool
		want   int
	}{
		{api.Order{}, words("a b a"), false, 2}, {api.Order{}, words("a a"), true, 1}, {api.Order{}, words("a a"), false, -1}, {api.Order{To: 1}, words("b a"), false, -1},
		{api.Order{}, nil, false, -1}, {api.Order{}, nil, true, -1}, {api.Order{}, words("a"), false, -1}, {api.Order{}, words("a"), true, -1}, {api.Order{}, list("", ""), false, -1}, {api.Order{}, list("", ""), true, 1},
		{api.Order{}, words("b a c d"), false, 1}, {api.Order{}, words("a c b d"), false, 2}, {api.Order{}, words("a b d c"), false, 3}, {api.Order{}, words("d c b a"), false, 1},
		{api.Order{}, words("b a c d"), true, 1}, {api.Order{}, words("a c b d"), true, 2}, {api.Order{}, words("a b d c"), true, 3}, {api.Order{}, words("a b c d"), true, -1},
		{api.Order{}, words("a a b c"), true, 1}, {api.Order{}, words("a b b c"), true, 2}, {api.Order{}, words("a b c c"), true, 3}, {api.Order{}, words("a a b b a"), false, 4},
		{fold, words("a A"), false, 1}, {fold, words("A a"), false, -1}, {fold, words("A a"), true, 1}, {fold, words("A b C"), true, -1},
		{number, words("9 10"), true, -1}, {number, words("10 9"), false, 1}, {number, words("09 9"), false, -1}, {number, words("09 9"), true, 1}, {number, words("9 09"), false, 1},
		{reverse, words("b a"), true, -1}, {reverse, words("a b"), false, 1}, {reverse, words("b b"), false, -1}, {reverse, words("b b"), true, 1},
		{api.Order{Fold: true, Reverse: true}, words("a A"), false, -1}, {api.Order{Fold: true, Reverse: true}, words("A a"), false, 1}, {api.Order{Fold: true, Reverse: true}, words("a A"), true, 1},
		{api.Order{Blanks: true}, list(" a", "a"), false, -1}, {api.Order{Blanks: true}, list("a", " a"), false, 1}, {api.Order{Blanks: true}, list(" a", "a"), true, 1},
		{second, words("z:1 a:2"), true, -1}, {second, words("a:1 b:1"), false, -1}, {second, words("b:1 a:1"), false, 1}, {second, words("a:1 b:1"), true, 1}, {second, words("a:2 b:1"), false, 1},
	} {
		wantCheck(t, c.o, c.l, c.unique, c.want)
	}
	for _, o := range wrongOrders() {
		for _, l := range [][]string{nil, words("a"), words("b a"), words("a a")} {
			wantCheck(t, o, l, false, -1)
			wantCheck(t, o, l, true, -1)
		}
	}
}

// P6.2: there is no limit to the lines that are checked.
func TestCheckMany(t *testing.T) {
	l := make([]string, 3*api.MaxLines)
	l[0] = "a"
	wantCheck(t, api.Order{Reverse: true}, l, false, -1)
	wantCheck(t, api.Order{Reverse: true}, l, true, 2)
	l[len(l)-1] = "b"
	wantCheck(t, api.Order{Reverse: true}, l, false, len(l)-1)
	wantCheck(t, api.Order{}, l, false, 1)
	rising := slices.Sorted(slices.Values(numbered(2 * api.MaxLines)))
	wantCheck(t, api.Order{}, rising, true, -1)
	wantCheck(t, api.Order{From: 2, Number: true}, rising, true, -1)
}

// P6.3: the chapter's examples, and each edge.
func TestMerge(t *testing.T) {
	none := api.Order{}
	wantMerge(t, none, [][]string{words("a c"), words("b")}, words("a b c"))
	wantMergeError(t, none, [][]string{words("b a")}, api.ErrArg)
	wantMerge(t, none, nil, nil)
	wantMerge(t, none, [][]string{}, nil)
	wantMerge(t, none, [][]string{nil}, nil)
	wantMerge(t, none, [][]string{nil, {}, nil}, nil)
	wantMerge(t, none, [][]string{nil, words("a"), {}, words("a b"), nil}, words("a a b"))
	wantMerge(t, none, [][]string{words("a b")}, words("a b"))
	wantMerge(t, none, [][]string{list("", ""), list("")}, list("", "", ""))
	wantMerge(t, none, [][]string{words("c d"), words("a b")}, words("a b c d"))
	wantMerge(t, api.Order{Reverse: true}, [][]string{words("c a"), words("d b")}, words("d c b a"))
	wantMerge(t, api.Order{Number: true}, [][]string{words("9 10"), words("09 9 010")}, words("09 9 9 010 10"))
	wantMerge(t, api.Order{Number: true, Reverse: true}, [][]string{words("10 9"), words("010 9 09")}, words("10 010 9 9 09"))
	wantMerge(t, api.Order{Fold: true}, [][]string{words("a b"), words("A B")}, words("A a B b"))
	wantMerge(t, api.Order{Blanks: true}, [][]string{words("a b"), list(" a", "\tb")}, list(" a", "a", "\tb", "b"))
	wantMerge(t, api.Order{From: 2, Sep: ':'}, [][]string{words("z:1 b:3"), words("x:1 a:2")}, words("x:1 z:1 a:2 b:3"))
}

// P6.3: a list that is not in order, at each place, wherever the fault stands in it.
func TestMergeWrongLists(t *testing.T) {
	for at := range 4 {
		for _, wrong := range []string{"b a c d", "a c b d", "a b d c"} {
			lists := [][]string{words("a b"), nil, words("c"), words("a c d d")}
			lists[at] = words(wrong)
			wantMergeError(t, api.Order{}, lists, api.ErrArg)
		}
	}
	wantMergeError(t, api.Order{Reverse: true}, [][]string{words("a b")}, api.ErrArg)
	wantMergeError(t, api.Order{Number: true}, [][]string{words("9"), words("9 09")}, api.ErrArg)
	wantMergeError(t, api.Order{Fold: true}, [][]string{words("a A"), words("b")}, api.ErrArg)
	wantMergeError(t, api.Order{Fold: true, Reverse: true}, [][]string{words("A a")}, api.ErrArg)
	for _, o := range wrongOrders() {
		for _, l := range [][][]string{nil, {nil}, {words("a b")}, {words("b a")}, {make([]string, api.MaxLines), list("")}} {
			wantMergeError(t, o, l, api.ErrArg)
		}
	}
}

// P6.3, R2: MaxLines lines together and one more; a list that is not in order is told ahead of that, wherever it stands.
func TestMergeLimit(t *testing.T) {
	l := slices.Sorted(slices.Values(numbered(api.MaxLines)))
	var single [][]string
	half := make([][]string, 2)
	for i, line := range l {
		single = append(single, list(line))
		half[i%2] = append(half[i%2], line)
	}
	pieces := [][]string{l[:1], l[1 : api.MaxLines-1], l[api.MaxLines-1:]}
	slices.Reverse(single)
	for _, lists := range [][][]string{{l}, pieces, half, single, {nil, l, nil}} {
		if got, e := sorts.Merge(api.Order{}, lists); e != api.OK || !slices.Equal(got, l) {
			t.Errorf("%d lists: %d lines, %d", len(lists), len(got), e)
		}
		more := append(slices.Clone(lists), list("z"))
		wantMergeError(t, api.Order{}, more, api.ErrLimit)
		wantMergeError(t, api.Order{}, append(more, words("b a")), api.ErrArg)
		wantMergeError(t, api.Order{}, append([][]string{words("b a")}, more...), api.ErrArg)
		wantMergeError(t, api.Order{To: 1}, more, api.ErrArg)
	}
	wantMergeError(t, api.Order{}, [][]string{append(slices.Clone(l), "z")}, api.ErrLimit)
	wantMergeError(t, api.Order{}, [][]string{append(slices.Clone(l), "a")}, api.ErrArg)
}

// P6.3, P6.6: sorted lists that are merged are all lines, sorted; lists that are not are refused.
func TestMergeShort(t *testing.T) {
	lists := shortLists(list("a", "A", "9", "09", " a:9"), 2)
	for _, o := range rightOrders() {
		for _, a := range lists {
			for _, b := range lists {
				both := [][]string{a, b}
				if slowCheck(o, a, false) >= 0 || slowCheck(o, b, false) >= 0 {
					wantMergeError(t, o, both, api.ErrArg)
				} else {
					wantMerge(t, o, both, slowSort(o, slices.Concat(a, b), false))
				}
			}
		}
		if t.Failed() {
			return
		}
	}
}

// P6.3, P6.6: the same of many lists, long and short ones.
func TestMergeLong(t *testing.T) {
	for _, o := range rightOrders() {
		lists := longLists(someLines(), 15)
		want, _ := sorts.Sort(o, slices.Concat(lists...), false)
		for i, l := range lists {
			lists[i], _ = sorts.Sort(o, l, false)
		}
		wantMerge(t, o, lists, want)
		slices.Reverse(lists)
		wantMerge(t, o, lists, want)
	}
}

// P6.4: the chapter's examples.
func TestRunsExamples(t *testing.T) {
	wantRuns(t, words("a a b a"), 0, 0, "2 a", "1 b", "1 a")
	wantRuns(t, list("1 x", "2 x", "3 y"), 1, 0, "2 1 x", "1 3 y")
	wantRuns(t, words("ax bx by"), 0, 1, "2 ax", "1 by")
}

// P6.4: no lines, one, empty ones; numbers that are 0, below 0, as great as a line holds, greater, as great as an int holds.
func TestRunsEdges(t *testing.T) {
	for _, n := range []int{minInt, -1, 0, 1, 2, maxInt} {
		for _, m := range []int{minInt, -1, 0, 1, 2, maxInt} {
			wantRuns(t, nil, n, m)
			wantRuns(t, list(), n, m)
			wantRuns(t, list(""), n, m, "1 ")
			wantRuns(t, list("a b"), n, m, "1 a b")
			wantRuns(t, list("", "", ""), n, m, "3 ")
		}
	}
	for _, n := range []int{minInt, -1, 0} {
		wantRuns(t, words("a a b"), n, n, "2 a", "1 b")
		wantRuns(t, list("1 a", "2 a", "2 b"), 1, n, "2 1 a", "1 2 b")
		wantRuns(t, list("1a", "2a", "2b"), n, 1, "2 1a", "1 2b")
		wantRuns(t, list("", " ", "a"), n, n, "1 ", "1  ", "1 a")
	}
	wantRuns(t, words("ab ac bc"), 0, 1, "1 ab", "2 ac")
	for _, n := range []int{2, 3, maxInt} {
		wantRuns(t, words("ab ac bc"), 0, n, "3 ab")
		wantRuns(t, list("a b", "c d", "e", ""), n, 0, "4 a b")
		wantRuns(t, list("a b", "c d", "e", ""), n, n, "4 a b")
	}
	wantRuns(t, list("a b c", "x y c", "c", "a b d"), 2, 0, "2 a b c", "1 c", "1 a b d")
	wantRuns(t, list("a b c", "x y c", "c", "a b d"), 2, 2, "4 a b c")
	wantRuns(t, list("a bc", "b xc", "b xd"), 1, 2, "2 a bc", "1 b xd")
	wantRuns(t, list("a bc", "b xc", "b xd"), 1, 1, "1 a bc", "1 b xc", "1 b xd")
}

// P6.4: the blanks ahead of a field go with it, those behind it stay; fields that are there no more leave nothing.
func TestRunsBlanks(t *testing.T) {
	wantRuns(t, list("a x", " b x", "\t \tc x", "x x"), 1, 0, "4 a x")
	wantRuns(t, list("a x", "a  x", "a\tx"), 1, 0, "1 a x", "1 a  x", "1 a\tx")
	wantRuns(t, list("a x", "a\tx"), 1, 1, "2 a x")
	wantRuns(t, list("a", "a ", "a  "), 1, 0, "1 a", "1 a ", "1 a  ")
	wantRuns(t, list("a", "a ", "a  "), 2, 0, "3 a")
	wantRuns(t, list(" ", "\t", "", "a", "  a"), 1, 0, "5  ")
	wantRuns(t, list("a\nb c", "a c"), 1, 0, "2 a\nb c")
	wantRuns(t, list("a\vb c", "a\vd c"), 1, 0, "2 a\vb c")
}

// P6.4: of all bytes two are blanks.
func TestRunsEachByte(t *testing.T) {
	for c := range 256 {
		b := string([]byte{byte(c)})
		l := list("x"+b+"y z", "w z")
		if c == ' ' || c == '\t' {
			wantRuns(t, l, 1, 0, "1 "+l[0], "1 w z")
		} else {
			wantRuns(t, l, 1, 0, "2 "+l[0])
		}
		long := list(strings.Repeat("x", 20)+b+"y z", "w z")
		if c == ' ' || c == '\t' {
			wantRuns(t, long, 1, 0, "1 "+long[0], "1 w z")
		} else {
			wantRuns(t, long, 1, 0, "2 "+long[0])
		}
		wantRuns(t, list(b+"a", "a"), 0, 0, "1 "+b+"a", "1 a")
		wantRuns(t, list(b+"a", "xa"), 0, 1, "2 "+b+"a")
	}
}

var field = regexp.MustCompile(`[ \t]*[^ \t]+`)

// slowLeft is the chapter's rule by a regular expression.
func slowLeft(line string, fields, bytes int) string {
	if fields > 0 {
		l := field.FindAllStringIndex(line, -1)
		if len(l) < fields {
			return ""
		}
		line = line[l[fields-1][1]:]
	}
	for ; bytes > 0 && line != ""; bytes-- {
		line = line[1:]
	}
	return line
}

// P6.4: all pairs of short lines; they are one run, if the same is left of them.
func TestRunsShort(t *testing.T) {
	var short []string
	for _, l := range append(shortLists(list(" ", "a", "b"), 4), shortLists(list(" ", "\t", "a"), 3)...) {
		short = append(short, strings.Join(l, ""))
	}
	for fields := -1; fields < 4; fields++ {
		for bytes := -1; bytes < 4; bytes++ {
			left := make([]string, len(short))
			for i, line := range short {
				left[i] = slowLeft(line, fields, bytes)
			}
			for i, a := range short {
				for j, b := range short {
					if left[i] == left[j] {
						wantRuns(t, list(a, b), fields, bytes, "2 "+a)
					} else {
						wantRuns(t, list(a, b), fields, bytes, "1 "+a, "1 "+b)
					}
				}
				if t.Failed() {
					return
				}
			}
		}
	}
}

// P6.4: runs stand in the order of the lines and hold all of them; there is no limit to these.
func TestRunsLong(t *testing.T) {
	for _, l := range longLists(list("a", "a", "a", "b", "", "a b"), 200) {
		var all []string
		for _, r := range sorts.Runs(l, 0, 0) {
			if r.N < 1 || len(all) > 0 && all[len(all)-1] == r.Line {
				t.Fatalf("Runs(%q): %v", l, r)
			}
			all = append(all, slices.Repeat(list(r.Line), r.N)...)
		}
		if !slices.Equal(all, l) {
			t.Fatalf("Runs(%q): %q", l, all)
		}
	}
	wantRuns(t, make([]string, 3*api.MaxLines), 1, 1, fmt.Sprint(3*api.MaxLines, " "))
	line := strings.Repeat("a ", api.MaxText)
	wantRuns(t, list(line, "b", line+"x"), maxInt, maxInt, "3 "+line)
	wantRuns(t, list(line, "b", line+"x"), api.MaxText, 1, "2 "+line, "1 "+line+"x")
}

// P6.5: the chapter's example, and each edge.
func TestComm(t *testing.T) {
	wantComm(t, words("a b d"), words("b c d"), words("a"), words("c"), words("b d"))
	wantComm(t, nil, nil, nil, nil, nil)
	wantComm(t, list(), nil, nil, nil, nil)
	wantComm(t, words("a b"), nil, words("a b"), nil, nil)
	wantComm(t, nil, words("a b"), nil, words("a b"), nil)
	wantComm(t, words("a b"), words("a b"), nil, nil, words("a b"))
	wantComm(t, words("a b"), words("c d"), words("a b"), words("c d"), nil)
	wantComm(t, words("c d"), words("a b"), words("c d"), words("a b"), nil)
	wantComm(t, list(""), list(""), nil, nil, list(""))
	wantComm(t, list("", "a"), list("a"), list(""), nil, list("a"))
	// bytes, not letters; a beginning is less
	wantComm(t, words("B a"), words("A b"), words("B a"), words("A b"), nil)
	wantComm(t, list("a", "a\x00", "a\xff"), list("a\x00", "ab"), list("a", "a\xff"), list("ab"), list("a\x00"))
	// a line that stands several times
	wantComm(t, words("a a a"), words("a a"), words("a"), nil, words("a a"))
	wantComm(t, words("a a"), words("a a a"), nil, words("a"), words("a a"))
	wantComm(t, words("a a b b"), words("a b b b"), words("a"), words("b"), words("a b b"))
	// lists that are not in order
	wantComm(t, words("b a"), words("a b"), words("a"), words("a"), words("b"))
	wantComm(t, words("c a b"), words("b c"), words("a b"), words("b"), words("c"))
	wantComm(t, words("d c b a"), words("a b c d"), words("c b a"), words("a b c"), words("d"))
	wantComm(t, words("a"), words("b a"), words("a"), words("b a"), nil)
}

// slowComm is the chapter's rule, step by step, from the first lines on.
func slowComm(a, b []string) (one, two, both []string) {
	if len(a) == 0 || len(b) == 0 {
		return a, b, nil
	}
	switch {
	case a[0] < b[0]:
		one, two, both = slowComm(a[1:], b)
		return slices.Concat(a[:1], one), two, both
	case b[0] < a[0]:
		one, two, both = slowComm(a, b[1:])
		return one, slices.Concat(b[:1], two), both
	}
	one, two, both = slowComm(a[1:], b[1:])
	return one, two, slices.Concat(a[:1], both)
}

// P6.5: all short lists, in order or not.
func TestCommShort(t *testing.T) {
	lists := shortLists(list("", "a", "ab", "b"), 4)
	for _, a := range lists {
		for _, b := range lists {
			one, two, both := slowComm(a, b)
			wantComm(t, a, b, one, two, both)
		}
		if t.Failed() {
			return
		}
	}
}

// P6.5: lists in order: a line goes to both as often as it stands in each; there is no limit.
func TestCommMany(t *testing.T) {
	all := slices.Sorted(slices.Values(numbered(3 * api.MaxLines)))
	var a, b, one, two, both []string
	for i, line := range all {
		switch i % 3 {
		case 0:
			a, one = append(a, line), append(one, line)
		case 1:
			b, two = append(b, line), append(two, line)
		default:
			a, b, both = append(a, line), append(b, line), append(both, line)
		}
	}
	x, y, z := sorts.Comm(a, b)
	if !slices.Equal(x, one) || !slices.Equal(y, two) || !slices.Equal(z, both) {
		t.Errorf("Comm: %d, %d, %d lines", len(x), len(y), len(z))
	}
}

// spoil writes over a list, its spare room too.
func spoil(l []string) {
	l = l[:cap(l)]
	for i := range l {
		l[i] = "spoilt"
	}
}

// R4: what is handed in stays as it was, its spare room too.
func TestHandedIn(t *testing.T) {
	room := words("d c C b a a c b d spare room")
	before := slices.Clone(room)
	sorted := words("a b b c d spare room")
	sortedBefore := slices.Clone(sorted)
	for to := range len(room) + 1 {
		for _, o := range append(manners(api.Order{}), api.Order{From: 1, To: 1}, api.Order{To: 1}) {
			for _, unique := range []bool{false, true} {
				sorts.Sort(o, room[:to], unique)
				sorts.Check(o, room[:to], unique)
			}
			sorts.Merge(o, [][]string{room[:min(to, 1)], sorted[:min(to, 5)], room[1:min(to+1, 2)]})
			sorts.Merge(o, [][]string{room[:to], sorted[:min(to, 5)]})
		}
		sorts.Runs(room[:to], 0, 1)
		sorts.Comm(room[:to], sorted[:min(to, 5)])
		sorts.Comm(sorted[:min(to, 5)], room[:to])
		if !slices.Equal(room, before) || !slices.Equal(sorted, sortedBefore) {
			t.Fatalf("handed in: %q %q", room, sorted)
		}
	}
}

// R4: the list of lists that is handed to Merge stays too.
func TestMergeListOfLists(t *testing.T) {
	lists := [][]string{words("a c"), nil, words("b"), words("z y"), words("x")}
	sorts.Merge(api.Order{}, lists[:3])
	sorts.Merge(api.Order{}, lists)
	want := [][]string{words("a c"), nil, words("b"), words("z y"), words("x")}
	if !slices.EqualFunc(lists, want, slices.Equal) {
		t.Errorf("handed in: %q", lists)
	}
}

// R4, R5: an answer is new memory, its spare room too: to write into it changes neither what was handed in nor another answer, nor does what is written into the lists handed in change an answer.
func TestAnswersNew(t *testing.T) {
	for n := range 20 {
		l := append(slices.Repeat(words("a"), n), "b")
		l = l[:len(l):len(l)]
		want := slices.Clone(l)
		lists := [][]string{l, nil}
		calls := []func() [][]string{
			func() [][]string { x, _ := sorts.Sort(api.Order{}, l, false); return [][]string{x} },
			func() [][]string { x, _ := sorts.Merge(api.Order{}, lists); return [][]string{x} },
			func() [][]string { x, _, _ := sorts.Comm(l, nil); return [][]string{x} },
			func() [][]string { _, x, _ := sorts.Comm(nil, l); return [][]string{x} },
			func() [][]string { _, _, x := sorts.Comm(l, l); return [][]string{x} },
		}
		for i, call := range calls {
			first, second := call(), call()
			spoil(first[0])
			if !slices.Equal(l, want) || !slices.Equal(second[0], want) || !slices.Equal(call()[0], want) {
				t.Fatalf("call %d, %d lines: %q %q", i, n, l, second[0])
			}
			third := call()
			spoil(l)
			if !slices.Equal(third[0], want) {
				t.Fatalf("call %d, %d lines: kept: %q", i, n, third[0])
			}
			copy(l, want)
		}
	}
}

// R4: the three lists of one answer share nothing.
func TestCommListsApart(t *testing.T) {
	for n := range 20 {
		a := slices.Repeat(words("a b"), n)
		b := slices.Repeat(words("b c"), n)
		slices.Sort(a)
		slices.Sort(b)
		for which := range 3 {
			x, y, z := sorts.Comm(a, b)
			got := [][]string{x, y, z}
			spoil(got[which])
			for i, line := range words("a c b") {
				if i != which && !slices.Equal(got[i], slices.Repeat(list(line), n)) {
					t.Fatalf("%d times: spoilt %d, list %d: %q", n, which, i, got[i])
				}
			}
		}
	}
}

// R4: runs are new memory too.
func TestRunsNew(t *testing.T) {
	l := words("a a b c c c")
	first, second := sorts.Runs(l, 0, 0), sorts.Runs(l, 0, 0)
	whole := first[:cap(first)]
	for i := range whole {
		whole[i] = sorts.Run{Line: "spoilt", N: -1}
	}
	spoil(l)
	if want := []sorts.Run{{Line: "a", N: 2}, {Line: "b", N: 1}, {Line: "c", N: 3}}; !slices.Equal(second, want) {
		t.Errorf("another answer: %v", second)
	}
}

// R1: no arguments make a call panic.
func TestAny(t *testing.T) {
	ends := []int{minInt, -1, 0, 1, 2, 1000, 1001, maxInt}
	lists := [][]string{nil, {}, list(""), list("\n"), list("\x00", "\xff\xfe", "a\nb", " \t "), list("b", "a", "", "-", ".", "-.")}
	for _, from := range ends {
		for _, to := range ends {
			for _, sep := range []byte{0, '\t', '\n', ' ', ':', 255} {
				for _, o := range manners(api.Order{From: from, To: to, Sep: sep}) {
					for _, l := range lists {
						sorted, e := sorts.Sort(o, l, false)
						if keys.Check(o) != (e == api.OK) || e == api.OK && len(sorted) != len(l) {
							t.Fatalf("Sort(%+v, %q): %q %d", o, l, sorted, e)
						}
						sorts.Sort(o, l, true)
						sorts.Check(o, l, true)
						sorts.Check(o, l, false)
						sorts.Merge(o, [][]string{l, nil, l})
					}
				}
			}
			for _, l := range lists {
				sorts.Runs(l, from, to)
			}
		}
	}
}
