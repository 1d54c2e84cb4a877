package lists_test

import (
	"math"
	"regexp"
	"slices"
	"strconv"
	"strings"
	"testing"

	"toolchest/api"
	"toolchest/lists"
)

const maxPlace = 2147483647

// list: ranges, by From and To in turn.
func list(ends ...int) []api.Range {
	var l []api.Range
	for i := 0; i < len(ends); i += 2 {
		l = append(l, api.Range{From: ends[i], To: ends[i+1]})
	}
	return l
}

func wantParse(t *testing.T, s string, ends ...int) {
	t.Helper()
	if l, e := lists.Parse(s); e != api.OK || !slices.Equal(l, list(ends...)) {
		t.Errorf("Parse(%.50q): %v %d, want %v", s, l, e, list(ends...))
	}
}

func wantParseError(t *testing.T, s string, want api.Errno) {
	t.Helper()
	if l, e := lists.Parse(s); e != want || len(l) != 0 {
		t.Errorf("Parse(%.50q): %v %d, want %d and nothing else", s, l, e, want)
	}
}

func wantHas(t *testing.T, l []api.Range, n int, want bool) {
	t.Helper()
	if got := lists.Has(l, n); got != want {
		t.Errorf("Has(%v, %d): %v, want %v", l, n, got, want)
	}
}

func wantText(t *testing.T, l []api.Range, want string) {
	t.Helper()
	if s, e := lists.Text(l); e != api.OK || s != want {
		t.Errorf("Text(%.50v): %.50q %d, want %.50q", l, s, e, want)
	}
}

func wantTextError(t *testing.T, l []api.Range, want api.Errno) {
	t.Helper()
	if s, e := lists.Text(l); e != want || s != "" {
		t.Errorf("Text of %d ranges: %.50q %d, want %d and nothing else", len(l), s, e, want)
	}
}

// shortTexts: all texts of at most so many bytes that are made of these ones.
func shortTexts(bytes string, most int) []string {
	out := []string{""}
	for from, n := 0, 0; n < most; n++ {
		to := len(out)
		for _, s := range out[from:to] {
			for i := range len(bytes) {
				out = append(out, s+bytes[i:i+1])
			}
		}
		from = to
	}
	return out
}

var itemForm = regexp.MustCompile(`\A(?:([1-9][0-9]*)|([1-9][0-9]*)-([1-9][0-9]*)|([1-9][0-9]*)-|-([1-9][0-9]*))\z`)

// slowParse says the chapter's words in another way, by the library; false: s is no list's text.
func slowParse(s string) ([]api.Range, bool) {
	var l []api.Range
	for _, item := range strings.Split(s, ",") {
		m := itemForm.FindStringSubmatch(item)
		if m == nil {
			return nil, false
		}
		var n [6]int
		for i := 1; i < 6; i++ {
			if m[i] == "" {
				continue
			}
			place, err := strconv.ParseInt(m[i], 10, 32)
			if err != nil {
				return nil, false
			}
			n[i] = int(place)
		}
		switch {
		case m[1] != "":
			l = append(l, api.Range{From: n[1], To: n[1]})
		case m[3] != "" && n[2] > n[3]:
			return nil, false
		case m[3] != "":
			l = append(l, api.Range{From: n[2], To: n[3]})
		case m[4] != "":
			l = append(l, api.Range{From: n[4]})
		default:
			l = append(l, api.Range{From: 1, To: n[5]})
		}
	}
	return l, true
}

// P3.1: the chapter's examples.
func TestParseExamples(t *testing.T) {
	wantParse(t, "1,3-5,-2,7-", 1, 1, 3, 5, 1, 2, 7, 0)
	for _, s := range []string{"", "0", "01", "5-3", "-", "1,", "1-2-3", "2147483648"} {
		wantParseError(t, s, api.ErrForm)
	}
}

// P3.1: each form by itself, with the least and the greatest place.
func TestParseForms(t *testing.T) {
	wantParse(t, "1", 1, 1)
	wantParse(t, "10", 10, 10)
	wantParse(t, "2147483647", maxPlace, maxPlace)
	wantParse(t, "1-1", 1, 1)
	wantParse(t, "3-5", 3, 5)
	wantParse(t, "9-10", 9, 10)
	wantParse(t, "1-2147483647", 1, maxPlace)
	wantParse(t, "2147483647-2147483647", maxPlace, maxPlace)
	wantParse(t, "1-", 1, 0)
	wantParse(t, "100-", 100, 0)
	wantParse(t, "2147483647-", maxPlace, 0)
	wantParse(t, "-1", 1, 1)
	wantParse(t, "-20", 1, 20)
	wantParse(t, "-2147483647", 1, maxPlace)
	wantParse(t, "1234567890", 1234567890, 1234567890)
}

// P3.1: the ranges stay in their order, and as many as they are.
func TestParseOrder(t *testing.T) {
	wantParse(t, "3,2,1", 3, 3, 2, 2, 1, 1)
	wantParse(t, "5,5,5-5", 5, 5, 5, 5, 5, 5)
	wantParse(t, "1-,-1,1", 1, 0, 1, 1, 1, 1)
	wantParse(t, "2-9,3-4,-9,2-", 2, 9, 3, 4, 1, 9, 2, 0)
	wantParse(t, "7-,6-,1-2,1-3", 7, 0, 6, 0, 1, 2, 1, 3)
}

// P3.1: places that may not be, in each form.
func TestParseWrongPlaces(t *testing.T) {
	for _, n := range []string{
		"", "0", "00", "01", "007", "010", "2147483648", "2147483650", "3000000000", "10000000000",
		"4294967296", "4294967297", "9223372036854775807", "9223372036854775808", "18446744073709551616", "18446744073709551617",
		strings.Repeat("9", 1000), "+1", "--1", "1.", "1e3", "0x1", "1_0", "a", "1a", "a1", " 1", "1 ", "1 2", "\x001", "1\x00", "1\n", "\uff11", "\u0661",
	} {
		wantParseError(t, n, api.ErrForm)
		wantParseError(t, n+"-", api.ErrForm)
		wantParseError(t, "-"+n, api.ErrForm)
		wantParseError(t, n+"-"+n, api.ErrForm)
		if n != "" {
			wantParseError(t, n+"-2147483647", api.ErrForm)
			wantParseError(t, "1-"+n, api.ErrForm)
		}
		wantParseError(t, "1,"+n, api.ErrForm)
		wantParseError(t, n+",1", api.ErrForm)
		wantParseError(t, "1,"+n+",1", api.ErrForm)
	}
}

// P3.1: N at most M; no dash too many; commas stand between items alone.
func TestParseWrongItems(t *testing.T) {
	for _, s := range []string{
		"5-3", "2-1", "10-9", "100-99", "2147483647-2147483646", "1,5-3", "5-3,1",
		"-", "--", "---", "1--", "--1", "1--2", "-1-", "-1-2", "1-2-", "1-2-3", "-1-2-", "1-,-", "-,1",
		",", ",,", ",1", "1,", "1,,2", ",1,", "1,2,", ",,1", "1,,", "1-,", ",-1", "1-,,-1",
		"1;2", "1 2", "1, 2", "1 ,2", " ", "\n", "1\n", "\n1", "1,2\n", "1:2", "1\u20132",
	} {
		wantParseError(t, s, api.ErrForm)
	}
}

// P3.1: of all bytes, digits, the dash and the comma alone have a meaning.
func TestParseEveryByte(t *testing.T) {
	for c := range 256 {
		b := string([]byte{byte(c)})
		for _, s := range []string{b, "1" + b, b + "1", "1" + b + "2", "1-" + b, b + "-3", "1," + b, b + ",1"} {
			if want, ok := slowParse(s); !ok {
				wantParseError(t, s, api.ErrForm)
			} else if l, e := lists.Parse(s); e != api.OK || !slices.Equal(l, want) {
				t.Errorf("Parse(%q): %v %d, want %v", s, l, e, want)
			}
		}
	}
}

// P3.1: all short texts.
func TestParseAllShort(t *testing.T) {
	for _, s := range shortTexts("012-,+", 6) {
		want, ok := slowParse(s)
		e := api.OK
		if !ok {
			e = api.ErrForm
		}
		if l, got := lists.Parse(s); got != e || !slices.Equal(l, want) {
			t.Fatalf("Parse(%q): %v %d, want %v %d", s, l, got, want, e)
		}
	}
}

// P3.1: MaxWord bytes, and one more.
func TestParseLimit(t *testing.T) {
	ones := slices.Repeat([]int{1, 1}, api.MaxWord/2-1)
	ahead := strings.Repeat("1,", api.MaxWord/2-1)
	wantParse(t, ahead+"1", slices.Concat(ones, []int{1, 1})...)
	wantParse(t, ahead+"12", slices.Concat(ones, []int{12, 12})...)
	wantParse(t, ahead+"1-", slices.Concat(ones, []int{1, 0})...)
	wantParse(t, ahead+"-2", slices.Concat(ones, []int{1, 2})...)
	wantParseError(t, ahead+"123", api.ErrLimit)
	wantParseError(t, ahead+"1-2", api.ErrLimit)
	wantParseError(t, ahead+"1,2", api.ErrLimit)

	// What is no list's text either: ErrLimit is named first.
	for _, b := range []string{"0", "1", "-", ",", "a", "\x00"} {
		wantParseError(t, strings.Repeat(b, api.MaxWord), api.ErrForm)
		wantParseError(t, strings.Repeat(b, api.MaxWord+1), api.ErrLimit)
		wantParseError(t, strings.Repeat(b, 100*api.MaxWord), api.ErrLimit)
	}
}

// P3.2: the chapter's examples.
func TestHasExamples(t *testing.T) {
	l := list(3, 5, 9, 0)
	wantHas(t, l, 4, true)
	wantHas(t, l, 6, false)
	wantHas(t, l, 1000, true)
	wantHas(t, nil, 1, false)
}

// P3.2: the ends of ranges are in them.
func TestHasEnds(t *testing.T) {
	for n := -1; n <= 12; n++ {
		wantHas(t, list(3, 5, 9, 0), n, 3 <= n && n <= 5 || n >= 9)
		wantHas(t, list(9, 0, 3, 5), n, 3 <= n && n <= 5 || n >= 9)
		wantHas(t, list(4, 4), n, n == 4)
		wantHas(t, list(1, 6, 2, 3), n, 1 <= n && n <= 6)
		wantHas(t, list(2, 4, 3, 7), n, 2 <= n && n <= 7)
		wantHas(t, list(), n, false)
		wantHas(t, []api.Range{}, n, false)
	}
	wantHas(t, list(1, maxPlace), maxPlace, true)
	wantHas(t, list(1, maxPlace-1), maxPlace, false)
	wantHas(t, list(1, 0), maxPlace+1, true)
}

// P3.2: of any list, those too that may not be told: the words hold as they stand.
func TestHasAnyList(t *testing.T) {
	ends := []int{math.MinInt, math.MinInt + 1, -maxPlace, -3, -2, -1, 0, 1, 2, 3, maxPlace, maxPlace + 1, math.MaxInt - 1, math.MaxInt}
	for _, from := range ends {
		for _, to := range ends {
			for _, n := range ends {
				want := n >= from
				if to != 0 {
					want = want && n <= to
				}
				wantHas(t, list(from, to), n, want)
				wantHas(t, list(5, 4, from, to, 7, 6), n, want)
			}
		}
	}
	wantHas(t, list(5, 3), 4, false)
	wantHas(t, list(0, 3), 0, true)
	wantHas(t, list(0, 0), 0, true)
	wantHas(t, list(0, 0), -1, false)
	wantHas(t, list(-5, -2), -3, true)
	wantHas(t, list(-5, 0), -3, true)
}

// P3.2: a range that stands late in a long list.
func TestHasLong(t *testing.T) {
	l := slices.Repeat(list(2, 2), 100000)
	wantHas(t, l, 3, false)
	wantHas(t, append(l, list(3, 3)...), 3, true)
}

// P3.3: the chapter's examples.
func TestTextExamples(t *testing.T) {
	wantText(t, list(1, 1, 3, 5, 7, 0), "1,3-5,7-")
	wantTextError(t, nil, api.ErrArg)
	wantTextError(t, list(0, 3), api.ErrArg)
	wantTextError(t, list(5, 3), api.ErrArg)
}

// P3.3: each form, with the least and the greatest place; ranges from 1 are told as they are.
func TestTextForms(t *testing.T) {
	wantText(t, list(1, 1), "1")
	wantText(t, list(10, 10), "10")
	wantText(t, list(maxPlace, maxPlace), "2147483647")
	wantText(t, list(1, 0), "1-")
	wantText(t, list(20, 0), "20-")
	wantText(t, list(maxPlace, 0), "2147483647-")
	wantText(t, list(1, 2), "1-2")
	wantText(t, list(9, 10), "9-10")
	wantText(t, list(1, maxPlace), "1-2147483647")
	wantText(t, list(maxPlace-1, maxPlace), "2147483646-2147483647")
	wantText(t, list(5, 5, 5, 5, 1, 9, 3, 0, 2, 2), "5,5,1-9,3-,2")
}

// P3.3: lists that may not be told.
func TestTextWrong(t *testing.T) {
	wantTextError(t, []api.Range{}, api.ErrArg)
	wrong := list(
		0, 0, 0, 3, -1, 0, -1, -1, -1, 3, -5, -2, math.MinInt, 0, math.MinInt, math.MinInt,
		5, 3, 2, 1, maxPlace, maxPlace-1, maxPlace, 1,
		1, -1, 1, -maxPlace, 1, math.MinInt, 3, -3,
		maxPlace+1, 0, maxPlace+1, maxPlace+1, 1, maxPlace+1, maxPlace, maxPlace+1, maxPlace+1, 1,
		math.MaxInt, 0, math.MaxInt, math.MaxInt, 1, math.MaxInt,
		1<<32+1, 1<<32+1, 1<<32+1, 0, 1, 1<<32+1,
	)
	right := list(2, 4)
	for _, r := range wrong {
		l := []api.Range{r}
		wantTextError(t, l, api.ErrArg)
		wantTextError(t, slices.Concat(l, right), api.ErrArg)
		wantTextError(t, slices.Concat(right, l), api.ErrArg)
		wantTextError(t, slices.Concat(right, l, right), api.ErrArg)
	}
}

// P3.3: a told list of MaxWord bytes, and of one more.
func TestTextLimit(t *testing.T) {
	ones := slices.Repeat(list(1, 1), api.MaxWord/2-1)
	ahead := strings.Repeat("1,", api.MaxWord/2-1)
	wantText(t, slices.Concat(ones, list(1, 1)), ahead+"1")
	wantText(t, slices.Concat(ones, list(12, 12)), ahead+"12")
	wantText(t, slices.Concat(ones, list(1, 0)), ahead+"1-")
	wantTextError(t, slices.Concat(ones, list(123, 123)), api.ErrLimit)
	wantTextError(t, slices.Concat(ones, list(1, 2)), api.ErrLimit)
	wantTextError(t, slices.Concat(ones, list(12, 0)), api.ErrLimit)
	wantTextError(t, slices.Concat(ones, list(1, 1, 1, 1)), api.ErrLimit)
	wantTextError(t, slices.Repeat(list(maxPlace, maxPlace), 100000), api.ErrLimit)
}

// P3.3: ErrArg is named ahead of ErrLimit, wherever the wrong range stands.
func TestTextFirstError(t *testing.T) {
	ones := slices.Repeat(list(1, 1), api.MaxWord)
	wantTextError(t, ones, api.ErrLimit)
	wantTextError(t, slices.Concat(list(5, 3), ones), api.ErrArg)
	wantTextError(t, slices.Concat(ones, list(5, 3)), api.ErrArg)
	wantTextError(t, slices.Concat(ones, list(0, 0), ones), api.ErrArg)
}

// toldLists: all lists of one or two ranges with these ends that may be told.
func toldLists() [][]api.Range {
	ends := []int{1, 2, 3, 9, 10, 11, 99, 100, 1000000000, maxPlace - 1, maxPlace}
	var single [][]api.Range
	for i, from := range ends {
		single = append(single, list(from, 0))
		for _, to := range ends[i:] {
			single = append(single, list(from, to))
		}
	}
	out := slices.Clone(single)
	for _, a := range single {
		for _, b := range single {
			out = append(out, slices.Concat(a, b))
		}
	}
	return out
}

// P3.4: Parse of Text is the list.
func TestParseOfText(t *testing.T) {
	for _, l := range toldLists() {
		s, e := lists.Text(l)
		if e != api.OK {
			t.Fatalf("Text(%v): %d", l, e)
		}
		if back, e := lists.Parse(s); e != api.OK || !slices.Equal(back, l) {
			t.Fatalf("Parse(%q): %v %d, want %v", s, back, e, l)
		}
	}
	most := slices.Repeat(list(1, 1), api.MaxWord/2)
	s, _ := lists.Text(most)
	if back, e := lists.Parse(s); e != api.OK || !slices.Equal(back, most) {
		t.Errorf("%d ranges: %d %d", len(most), len(back), e)
	}
}

// P3.4: lists told one behind the other, with a comma, are the ranges of both.
func TestParseOfBoth(t *testing.T) {
	told := toldLists()
	for i, a := range told {
		b := told[(i*7+3)%len(told)]
		s, _ := lists.Text(a)
		u, _ := lists.Text(b)
		both := slices.Concat(a, b)
		if l, e := lists.Parse(s + "," + u); e != api.OK || !slices.Equal(l, both) {
			t.Fatalf("Parse(%q): %v %d, want %v", s+","+u, l, e, both)
		}
		wantText(t, both, s+","+u)
	}
	short := shortTexts("01-,", 3)
	for _, s := range short {
		for _, u := range short {
			a, ea := lists.Parse(s)
			b, eb := lists.Parse(u)
			if ea != api.OK || eb != api.OK {
				wantParseError(t, s+","+u, api.ErrForm)
			} else if l, e := lists.Parse(s + "," + u); e != api.OK || !slices.Equal(l, slices.Concat(a, b)) {
				t.Fatalf("Parse(%q): %v %d, want %v %v", s+","+u, l, e, a, b)
			}
		}
	}
}

// R4: what is handed in stays as it was, its spare room too.
func TestHandedIn(t *testing.T) {
	room := list(1, 1, 3, 5, 7, 0, 8, 8, 0, 3, 5, 3, -1, -1)
	before := slices.Clone(room)
	for to := range len(room) + 1 {
		lists.Text(room[:to])
		for n := -1; n < 10; n++ {
			lists.Has(room[:to], n)
		}
		if !slices.Equal(room, before) {
			t.Fatalf("handed in: %v", room)
		}
	}
	many := slices.Repeat(list(1, 1), 3*api.MaxWord)
	lists.Text(many[:2*api.MaxWord])
	if !slices.Equal(many, slices.Repeat(list(1, 1), 3*api.MaxWord)) {
		t.Error("handed in: a long list changed")
	}
}

// R4, R5: an answer is new memory, its spare room too; nothing is kept from call to call.
func TestAnswersNew(t *testing.T) {
	for n := 1; n < 20; n++ {
		s := strings.Repeat("4-6,", n) + "7-"
		want := append(slices.Repeat(list(4, 6), n), list(7, 0)...)
		first, _ := lists.Parse(s)
		second, _ := lists.Parse(s)
		whole := first[:cap(first)]
		for i := range whole {
			whole[i] = api.Range{From: 99, To: 98}
		}
		if !slices.Equal(second, want) {
			t.Fatalf("another answer: %v", second)
		}
		if third, e := lists.Parse(s); e != api.OK || !slices.Equal(third, want) {
			t.Fatalf("a later answer: %v %d", third, e)
		}
	}
	l := list(2, 2, 4, 0)
	s, _ := lists.Text(l)
	l[0] = api.Range{From: 9, To: 9}
	if s != "2,4-" {
		t.Errorf("kept: %q", s)
	}
	wantText(t, l, "9,4-")
	wantHas(t, l, 2, false)
}
