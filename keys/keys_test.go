package keys_test

import (
	"bytes"
	"math/big"
	"math/rand"
	"regexp"
	"strings"
	"testing"

	"toolchest/api"
	"toolchest/keys"
	"toolchest/lines"
)

const (
	minInt = -1 << 63
	maxInt = 1<<63 - 1
)

// texts: all of at most so many bytes, out of some.
func texts(some string, most int) []string {
	l := []string{""}
	begin := 0
	for range most {
		end := len(l)
		for _, s := range l[begin:end] {
			for i := 0; i < len(some); i++ {
				l = append(l, s+some[i:i+1])
			}
		}
		begin = end
	}
	return l
}

// mayBe is the chapter's rule, by its words.
func mayBe(o api.Order) bool {
	fromOK := 0 <= o.From && o.From <= 1000
	toOK := o.To == 0 || o.From <= o.To && o.To <= 1000
	noneOK := o.From != 0 || o.To == 0
	return fromOK && toOK && noneOK && o.Sep != 10
}

var blankField = regexp.MustCompile(`[ \t]*[^ \t]+|[ \t]+$`)

// fieldPlaces: where the fields of a line begin and end, by another reading.
func fieldPlaces(s string, sep byte) [][]int {
	if sep == 0 {
		return blankField.FindAllStringIndex(s, -1)
	}
	var l [][]int
	begin := 0
	for i := 0; i <= len(s); i++ {
		if i == len(s) || s[i] == sep {
			l = append(l, []int{begin, i})
			begin = i + 1
		}
	}
	return l
}

func slowKey(o api.Order, s string) string {
	if !mayBe(o) {
		return ""
	}
	if o.From == 0 {
		return s
	}
	l := fieldPlaces(s, o.Sep)
	if len(l) < o.From {
		return ""
	}
	end := len(s)
	if o.To != 0 && o.To <= len(l) {
		end = l[o.To-1][1]
	}
	return s[l[o.From-1][0]:end]
}

var numberText = regexp.MustCompile(`^[ \t]*(-?)([0-9]*)(?:\.([0-9]*))?`)

// slowNumber is exact: digits are taken as a fraction.
func slowNumber(s string) *big.Rat {
	m := numberText.FindStringSubmatch(s)
	whole, part := m[2], m[3]
	r, ok := new(big.Rat).SetString("0" + whole + "." + part + "0")
	if !ok {
		panic(s)
	}
	if m[1] == "-" {
		r.Neg(r)
	}
	return r
}

func slowCompare(o api.Order, a, b string) int {
	if !mayBe(o) {
		return 0
	}
	a, b = slowKey(o, a), slowKey(o, b)
	n := 0
	if o.Number {
		n = slowNumber(a).Cmp(slowNumber(b))
	} else {
		n = bytes.Compare(slowFit(o, a), slowFit(o, b))
	}
	if o.Reverse {
		return -n
	}
	return n
}

func slowFit(o api.Order, s string) []byte {
	for o.Blanks && s != "" && (s[0] == 32 || s[0] == 9) {
		s = s[1:]
	}
	var l []byte
	for i := 0; i < len(s); i++ {
		c := s[i]
		if at := strings.IndexByte("abcdefghijklmnopqrstuvwxyz", c); o.Fold && at >= 0 {
			c = "ABCDEFGHIJKLMNOPQRSTUVWXYZ"[at]
		}
		l = append(l, c)
	}
	return l
}

// manners: orders with each of Number, Fold, Blanks and Reverse, alone and together.
func manners(o api.Order) []api.Order {
	var l []api.Order
	for bits := range 16 {
		o.Number, o.Fold, o.Blanks, o.Reverse = bits&1 != 0, bits&2 != 0, bits&4 != 0, bits&8 != 0
		l = append(l, o)
	}
	return l
}

// P5.1: the chapter's examples, and each edge.
func TestCheck(t *testing.T) {
	for _, o := range []api.Order{
		{From: 1001}, {From: 3, To: 2}, {To: 1}, {Sep: 10},
		{From: -1}, {From: -1, To: -1}, {From: minInt}, {From: maxInt}, {From: -2, To: 3},
		{To: -1}, {From: 1, To: -1}, {From: 1, To: minInt}, {From: 1, To: 1001}, {From: 1, To: maxInt}, {To: 1000}, {To: 1001},
		{From: 1001, To: 1001}, {From: 1001, To: 1000}, {From: 1000, To: 999}, {From: 1000, To: 1001}, {From: 2, To: 1},
		{From: 1, Sep: 10}, {From: 1, To: 2, Sep: 10}, {Number: true, Sep: 10}, {Reverse: true, To: 1},
	} {
		if keys.Check(o) {
			t.Errorf("Check(%+v): true", o)
		}
	}
	for _, o := range []api.Order{
		{}, {From: 1}, {From: 1000}, {From: 1, To: 1}, {From: 1, To: 1000}, {From: 1000, To: 1000}, {From: 2, To: 3},
		{Sep: 9}, {Sep: 11}, {Sep: 32}, {Sep: 255}, {From: 1, Sep: '0'}, {Number: true, Fold: true, Blanks: true, Reverse: true},
	} {
		if !keys.Check(o) {
			t.Errorf("Check(%+v): false", o)
		}
	}
}

// P5.1: numbers about the edges, each with each; every Sep; whatever else is asked makes no difference.
func TestCheckAll(t *testing.T) {
	edges := []int{minInt, minInt + 1, -1001, -1000, -2, -1, 0, 1, 2, 3, 998, 999, 1000, 1001, 1002, 1 << 32, 1<<32 + 1, maxInt - 1, maxInt}
	for _, from := range edges {
		for _, to := range edges {
			for sep := range 256 {
				for _, o := range manners(api.Order{From: from, To: to, Sep: byte(sep)}) {
					if ok := keys.Check(o); ok != mayBe(o) {
						t.Fatalf("Check(%+v): %v", o, ok)
					}
				}
			}
		}
	}
}

// P5.2: the chapter's examples, and each edge.
func TestKey(t *testing.T) {
	for _, c := range []struct {
		o       api.Order
		s, want string
	}{
		{api.Order{From: 2, To: 2, Sep: ':'}, "a:b:c", "b"},
		{api.Order{From: 2, Sep: ':'}, "a:b:c", "b:c"},
		{api.Order{From: 4, Sep: ':'}, "a:b:c", ""},
		{api.Order{From: 2, To: 9, Sep: ':'}, "a:b", "b"},
		{api.Order{From: 2, To: 2}, "a  b c", "  b"},
		{api.Order{From: 1}, " a", " a"},
		{api.Order{From: 2}, "a ", " "},

		{api.Order{}, "", ""}, {api.Order{}, " a:b ", " a:b "}, {api.Order{Sep: ':'}, "a:b", "a:b"},
		{api.Order{Blanks: true, Fold: true}, " a", " a"}, {api.Order{From: 1, To: 1, Number: true}, " 7x y", " 7x"},

		{api.Order{From: 1}, "", ""}, {api.Order{From: 1, To: 1}, "", ""}, {api.Order{From: 2}, "", ""},
		{api.Order{From: 1, Sep: ':'}, "", ""}, {api.Order{From: 2, Sep: ':'}, "", ""}, {api.Order{From: 1, To: 1, Sep: ':'}, "", ""},

		{api.Order{From: 1, To: 1, Sep: ':'}, ":a", ""}, {api.Order{From: 2, To: 2, Sep: ':'}, "a::b", ""}, {api.Order{From: 1, To: 2, Sep: ':'}, "a::b", "a:"},
		{api.Order{From: 2, Sep: ':'}, "a:", ""}, {api.Order{From: 1, To: 2, Sep: ':'}, "a:", "a:"}, {api.Order{From: 2, To: 3, Sep: ':'}, "::", ":"},
		{api.Order{From: 1, To: 9, Sep: ':'}, ":a:", ":a:"}, {api.Order{From: 3, To: 3, Sep: ':'}, "a:b", ""}, {api.Order{From: 1, Sep: ':'}, "a b", "a b"},

		{api.Order{From: 1, To: 1}, "  a  b  ", "  a"}, {api.Order{From: 2, To: 2}, "  a  b  ", "  b"}, {api.Order{From: 3, To: 3}, "  a  b  ", "  "},
		{api.Order{From: 4}, "  a  b  ", ""}, {api.Order{From: 2, To: 3}, "  a  b  ", "  b  "}, {api.Order{From: 2}, "  a  b  ", "  b  "}, {api.Order{From: 2, To: 9}, "  a  b  ", "  b  "},
		{api.Order{From: 1}, " \t ", " \t "}, {api.Order{From: 1, To: 1}, " \t ", " \t "}, {api.Order{From: 2}, " \t ", ""},
		{api.Order{From: 2, To: 2}, "a\tb\t\tc", "\tb"}, {api.Order{From: 1, To: 1}, "a\nb\rc d", "a\nb\rc"}, {api.Order{From: 2, To: 2}, "a\x00b c", " c"},

		{api.Order{From: 2, To: 2, Sep: ' '}, "a  b", ""}, {api.Order{From: 3, To: 3, Sep: ' '}, "a  b", "b"}, {api.Order{From: 2, Sep: '\t'}, "a b\tc", "c"},
		{api.Order{From: 2, Sep: 255}, "a\xffb", "b"}, {api.Order{From: 2, To: 2, Sep: 0xc3}, "é:é", "\xa9:"},
	} {
		if s := keys.Key(c.o, c.s); s != c.want {
			t.Errorf("Key(%+v, %q): %q, want %q", c.o, c.s, s, c.want)
		}
	}
}

// P5.2: of an order that may not be.
func TestKeyWrongOrder(t *testing.T) {
	for _, o := range []api.Order{
		{From: 1001}, {From: -1}, {From: minInt}, {From: 3, To: 2}, {To: 1}, {To: -1}, {From: 1, To: -1}, {From: 1, To: 1001}, {From: 1, To: maxInt}, {Sep: 10}, {From: 1, Sep: 10}, {From: 1, To: 1, Sep: 10},
	} {
		for _, s := range []string{"", "a", "a b c", "a\nb", strings.Repeat("a ", 2000)} {
			if k := keys.Key(o, s); k != "" {
				t.Errorf("Key(%+v, %.20q): %.20q", o, s, k)
			}
		}
	}
}

// P5.2: all short lines, held against another reading.
func TestKeyShort(t *testing.T) {
	for _, sep := range []byte{0, ':', ' ', '\t'} {
		for from := 0; from <= 6; from++ {
			for to := 0; to <= 7; to++ {
				o := api.Order{From: from, To: to, Sep: sep}
				for _, s := range texts("a :\t", 6) {
					if k := keys.Key(o, s); k != slowKey(o, s) {
						t.Fatalf("Key(%+v, %q): %q, want %q", o, s, k, slowKey(o, s))
					}
				}
			}
		}
	}
}

// P5.2: each byte as what stands between, as a blank or not; a Sep that stands nowhere.
func TestKeyEachByte(t *testing.T) {
	for i := range 256 {
		c := string([]byte{byte(i)})
		s := "a" + c + "b" + c + c + "d"
		want := s
		if c == " " || c == "\t" {
			want = "a"
		}
		if k := keys.Key(api.Order{From: 1, To: 1}, s); k != want {
			t.Errorf("Sep 0, byte %d: %q", i, k)
		}
		if i == 0 || i == 10 {
			continue
		}
		for from, want := range map[int]string{1: "a", 2: "b", 3: "", 4: "d", 5: ""} {
			if i == 'a' || i == 'b' || i == 'd' {
				break
			}
			if k := keys.Key(api.Order{From: from, To: from, Sep: byte(i)}, s); k != want {
				t.Errorf("Sep %d, field %d: %q, want %q", i, from, k, want)
			}
		}
	}
}

// P5.2: with Sep, fields are those of lines.Fields.
func TestKeyFields(t *testing.T) {
	for _, s := range texts("ab:", 6) {
		l := lines.Fields(s, ':')
		for i := range l {
			if k := keys.Key(api.Order{From: i + 1, To: i + 1, Sep: ':'}, s); k != l[i] {
				t.Fatalf("field %d of %q: %q, want %q", i+1, s, k, l[i])
			}
			if k := keys.Key(api.Order{From: i + 1, Sep: ':'}, s); k != strings.Join(l[i:], ":") {
				t.Fatalf("from field %d of %q: %q", i+1, s, k)
			}
		}
		if k := keys.Key(api.Order{From: len(l) + 1, Sep: ':'}, s); k != "" {
			t.Fatalf("behind the fields of %q: %q", s, k)
		}
	}
}

// P5.2: the greatest places of fields.
func TestKeyManyFields(t *testing.T) {
	for _, c := range []struct {
		o    api.Order
		n    int
		want string
	}{
		{api.Order{From: 1000, Sep: ':'}, 1000, "x"}, {api.Order{From: 1000, Sep: ':'}, 999, ""}, {api.Order{From: 1000, Sep: ':'}, 1002, "x:x:x"},
		{api.Order{From: 1000, To: 1000, Sep: ':'}, 1002, "x"}, {api.Order{From: 999, To: 1000, Sep: ':'}, 1002, "x:x"}, {api.Order{From: 999, To: 1000, Sep: ':'}, 999, "x"},
	} {
		s := strings.Repeat("x:", c.n-1) + "x"
		if k := keys.Key(c.o, s); k != c.want {
			t.Errorf("Key(%+v) of %d fields: %.20q", c.o, c.n, k)
		}
		c.o.Sep = 0
		s = strings.Repeat(" x", c.n)
		want := c.want
		if want != "" {
			want = " " + strings.ReplaceAll(want, ":", " ")
		}
		if k := keys.Key(c.o, s); k != want {
			t.Errorf("Key(%+v) of %d fields: %.20q", c.o, c.n, k)
		}
	}
	long := strings.Repeat("a ", api.MaxText)
	if k := keys.Key(api.Order{From: 1, To: 1000}, long); k != long[:1999] {
		t.Errorf("of a long line: %d bytes", len(k))
	}
}

func wantNumber(t *testing.T, a, b string, want int) {
	t.Helper()
	if n := keys.Number(a, b); n != want {
		t.Errorf("Number(%.40q, %.40q): %d, want %d", a, b, n, want)
	}
	if n := keys.Number(b, a); n != -want {
		t.Errorf("Number(%.40q, %.40q): %d, want %d", b, a, n, -want)
	}
}

// P5.4: the chapter's examples, and each edge.
func TestNumber(t *testing.T) {
	for _, c := range []struct {
		a, b string
		want int
	}{
		{"10", "9", 1}, {"-1.5", "-1.25", -1}, {"1.50", "1.5x", 0}, {"-", "", 0}, {"-0", "0", 0}, {".5", "0.4", 1}, {"  007", "7", 0}, {"99999999999999999999", "100000000000000000000", -1},

		{"", "", 0}, {"", "0", 0}, {"x", "", 0}, {"x9", "0", 0}, {"x9", "-1", 1}, {"", "1", -1}, {"", "-1", 1}, {" \t", "0", 0},
		{"-", "0", 0}, {"-", "-1", 1}, {"-x", "0", 0}, {"+1", "0", 0}, {"+", "0", 0}, {"--1", "0", 0}, {"-+1", "0", 0}, {"- 1", "0", 0}, {"-\t1", "0", 0}, {" - 1", "0", 0},
		{".", "0", 0}, {"-.", "0", 0}, {".x", "0", 0}, {"..5", "0", 0}, {".-5", "0", 0}, {". 5", "0", 0}, {"-..5", "0", 0}, {"-.x5", "0", 0},
		{"1.", "1", 0}, {"1.x", "1", 0}, {"1.x5", "1", 0}, {"1. 5", "1", 0}, {"-1.", "-1", 0}, {"1.", "1.1", -1}, {".5", "0.5", 0}, {"-.5", "-0.5", 0}, {"-.5", "-.25", -1}, {"-.5", "0", -1}, {".25", ".5", -1},
		{"007", "7", 0}, {"007", "8", -1}, {"0010", "9", 1}, {"-007", "-7", 0}, {"1.500", "1.5", 0}, {"1.005", "1.05", -1}, {"1.000", "1", 0}, {"000.000", "", 0}, {"0.10", ".1", 0}, {"100", "1", 1}, {"1.0", "10", -1},
		{"-0", "", 0}, {"-0.0", "0", 0}, {"-000.000x", "-", 0}, {"-0", "1", -1}, {"-0", "-1", 1}, {"-0.01", "-0", -1}, {"-0.00", "0.01", -1},
		{"7x", "7", 0}, {"7x9", "7", 0}, {"7 9", "7", 0}, {"7-9", "7", 0}, {"7,9", "7", 0}, {"7e9", "7", 0}, {"0x9", "0", 0}, {"7\x009", "7", 0}, {"7\n9", "7", 0}, {"7\xff", "7", 0}, {"7_9", "7", 0}, {"1.5e3", "1.5", 0},
		{"1.5.9", "1.5", 0}, {"1..9", "1", 0}, {"1.-9", "1", 0}, {"1.5-9", "1.5", 0}, {"1-.9", "1", 0},
		{"-1", "1", -1}, {"-2", "-1", -1}, {"-10", "-9", -1}, {"-9", "9", -1}, {"2", "1", 1}, {"19", "2", 1}, {"1.9", "1.10", 1}, {"1.9", "2.1", -1}, {"12.3", "12.3", 0}, {"12.3", "12.34", -1}, {"-12.3", "-12.34", 1}, {"-1.5", "1.25", -1},
		{"  7", "7", 0}, {"\t7", "7", 0}, {" \t \t7", "8", -1}, {" -7", "-7", 0}, {"\n7", "0", 0}, {"\r7", "0", 0}, {"\v7", "0", 0}, {"\xa07", "0", 0}, {"٧", "0", 0},
		{"9223372036854775807", "9223372036854775808", -1}, {"-9223372036854775808", "-9223372036854775809", 1}, {"18446744073709551616", "0", 1}, {"18446744073709551617", "1", 1}, {"9007199254740993", "9007199254740992", 1},
	} {
		wantNumber(t, c.a, c.b, c.want)
	}
}

// P5.4: with more digits than any kind of number holds.
func TestNumberLong(t *testing.T) {
	for _, n := range []int{19, 20, 400, 5000, api.MaxText} {
		nines, noughts := strings.Repeat("9", n), strings.Repeat("0", n)
		wantNumber(t, nines, nines, 0)
		wantNumber(t, nines, "1"+noughts, -1)
		wantNumber(t, "-"+nines, "-1"+noughts, 1)
		wantNumber(t, nines+"8", nines+"9", -1)
		wantNumber(t, nines+"8."+nines, nines+"9", -1)
		wantNumber(t, noughts+"1", "1", 0)
		wantNumber(t, "1."+noughts, "1", 0)
		wantNumber(t, "1."+noughts+"1", "1", 1)
		wantNumber(t, "-1."+noughts+"1", "-1", -1)
		wantNumber(t, "."+nines, "1", -1)
		wantNumber(t, "."+nines+"1", "."+nines+"2", -1)
		wantNumber(t, "-"+noughts+"."+noughts, noughts, 0)
		wantNumber(t, "-"+noughts+"."+noughts+"1", "", -1)
		wantNumber(t, strings.Repeat(" ", n)+"7", "7", 0)
	}
}

// P5.4: each byte behind a number's digits, in each of its places.
func TestNumberEachByte(t *testing.T) {
	for i := range 256 {
		c := string([]byte{byte(i)})
		for _, s := range []string{c, c + "5", "-" + c + "5", "5" + c, "5" + c + "5", "5." + c + "5", "5.5" + c + "5", " " + c + "5", "." + c, "." + c + "5"} {
			for _, other := range []string{"0", "5", "-5", "5.5", "5.05", ".5", "-.5", "55", "5.55"} {
				want := slowNumber(s).Cmp(slowNumber(other))
				wantNumber(t, s, other, want)
			}
		}
	}
}

// P5.4: all short texts, each with each, held against exact numbers.
func TestNumberShort(t *testing.T) {
	l := append(texts("01.-", 4), texts("09. x-", 3)...)
	exact := make([]*big.Rat, len(l))
	for i, s := range l {
		exact[i] = slowNumber(s)
	}
	for i, a := range l {
		for j, b := range l {
			if n := keys.Number(a, b); n != exact[i].Cmp(exact[j]) {
				t.Fatalf("Number(%q, %q): %d", a, b, n)
			}
		}
	}
}

// P5.3: the chapter's examples, and each edge.
func TestCompare(t *testing.T) {
	for _, c := range []struct {
		o    api.Order
		a, b string
		want int
	}{
		{api.Order{Fold: true}, "ab", "AB", 0}, {api.Order{}, "B", "a", -1}, {api.Order{Reverse: true}, "a", "b", 1}, {api.Order{Blanks: true}, " b", "a", 1}, {api.Order{Number: true}, "10", "9", 1},

		{api.Order{}, "", "", 0}, {api.Order{}, "a", "a", 0}, {api.Order{}, "", "a", -1}, {api.Order{}, "a", "ab", -1}, {api.Order{}, "ab", "b", -1}, {api.Order{}, "a", "a\x00", -1}, {api.Order{}, "10", "9", -1},
		{api.Order{}, "\x7f", "\x80", -1}, {api.Order{}, "\xff", "z", 1}, {api.Order{}, "a\nb", "a b", -1}, {api.Order{}, " b", "a", -1}, {api.Order{}, "ab", "AB", 1},
		{api.Order{Fold: true}, "_", "a", 1}, {api.Order{Fold: true}, "[", "z", 1}, {api.Order{Fold: true}, "`", "A", 1}, {api.Order{Fold: true}, "{", "Z", 1}, {api.Order{Fold: true}, "@", "a", -1},
		{api.Order{Fold: true}, "a", "AB", -1}, {api.Order{Fold: true}, "é", "É", 1}, {api.Order{Fold: true}, "\xe9", "\xc9", 1}, {api.Order{Fold: true}, "\xff", "\xfe", 1}, {api.Order{Fold: true}, "ſ", "s", 1}, {api.Order{Fold: true}, " a", "A", -1},
		{api.Order{Blanks: true}, " \ta", "a", 0}, {api.Order{Blanks: true}, "  ", "", 0}, {api.Order{Blanks: true}, "a ", "a", 1}, {api.Order{Blanks: true}, " a b", "a  b", 1}, {api.Order{Blanks: true}, "\na", "a", -1}, {api.Order{Blanks: true}, " a", "ab", -1},
		{api.Order{Blanks: true, Fold: true}, "  aB", "\tAb", 0}, {api.Order{Blanks: true, Fold: true, Reverse: true}, "  a", "B", 1},
		{api.Order{Reverse: true}, "a", "a", 0}, {api.Order{Reverse: true}, "ab", "a", -1}, {api.Order{Reverse: true}, "", "a", 1},
		{api.Order{Number: true}, "1a", "1b", 0}, {api.Order{Number: true}, "a", "b", 0}, {api.Order{Number: true, Fold: true, Blanks: true}, " 1a", "1.0", 0}, {api.Order{Number: true, Reverse: true}, "10", "9", -1}, {api.Order{Number: true, Reverse: true}, "-1", "1", 1},
		{api.Order{From: 2, Sep: ':'}, "a:1", "b:1", 0}, {api.Order{From: 2, To: 2}, "x b z", "y b a", 0}, {api.Order{From: 2}, "x b z", "y b a", 1}, {api.Order{From: 2}, "x  b", "x a", -1}, {api.Order{From: 2, Blanks: true}, "x  b", "x a", 1},
		{api.Order{From: 2, Number: true, Sep: ':'}, "z:9:0", "a:10:0", -1}, {api.Order{From: 2, Number: true, Sep: ':'}, "z", "a:-1", 1}, {api.Order{From: 3}, "z", "a", 0}, {api.Order{From: 2, To: 2, Fold: true, Sep: ','}, "1,x,9", "2,X,8", 0},
	} {
		if n := keys.Compare(c.o, c.a, c.b); n != c.want {
			t.Errorf("Compare(%+v, %q, %q): %d, want %d", c.o, c.a, c.b, n, c.want)
		}
		if n := keys.Compare(c.o, c.b, c.a); n != -c.want {
			t.Errorf("Compare(%+v, %q, %q): %d, want %d", c.o, c.b, c.a, n, -c.want)
		}
	}
}

// P5.3: of an order that may not be.
func TestCompareWrongOrder(t *testing.T) {
	for _, wrong := range []api.Order{
		{From: 1001}, {From: -1}, {From: minInt}, {From: maxInt}, {From: 3, To: 2}, {To: 1}, {To: -1}, {From: 1, To: -1}, {From: 1, To: 1001}, {Sep: 10}, {From: 1, Sep: 10},
	} {
		for _, o := range manners(wrong) {
			for _, c := range [][2]string{{"a", "b"}, {"1", "2"}, {"", "a"}, {"a b c", "b c d"}, {"a\nb", "b\na"}} {
				if n := keys.Compare(o, c[0], c[1]) | keys.Compare(o, c[1], c[0]); n != 0 {
					t.Errorf("Compare(%+v, %q, %q): %d", o, c[0], c[1], n)
				}
			}
		}
	}
}

// P5.3: each byte with each other one, by every manner.
func TestCompareEachByte(t *testing.T) {
	for _, o := range manners(api.Order{}) {
		for i := range 256 {
			for j := range 256 {
				a, b := string([]byte{byte(i), '5'}), string([]byte{byte(j), '5'})
				if n := keys.Compare(o, a, b); n != slowCompare(o, a, b) {
					t.Fatalf("Compare(%+v, %q, %q): %d", o, a, b, n)
				}
			}
		}
	}
}

func shortOrders() []api.Order {
	var l []api.Order
	for _, o := range []api.Order{{}, {From: 2}, {From: 1, To: 1}, {From: 2, Sep: ':'}, {From: 1, To: 2, Sep: ':'}} {
		l = append(l, manners(o)...)
	}
	return l
}

// P5.3, P5.5: all short lines, each with each, by every manner, held against another reading; turned about they have the other sign.
func TestCompareShort(t *testing.T) {
	l := append(texts("aB :", 3), texts("1.- ", 3)...)
	for _, o := range shortOrders() {
		for i, a := range l {
			for _, b := range l[i:] {
				n := keys.Compare(o, a, b)
				if n != slowCompare(o, a, b) {
					t.Fatalf("Compare(%+v, %q, %q): %d, want %d", o, a, b, n, slowCompare(o, a, b))
				}
				if m := keys.Compare(o, b, a); m != -n {
					t.Fatalf("Compare(%+v, %q, %q): %d, turned about %d", o, a, b, n, m)
				}
			}
		}
	}
}

// P5.5: of three lines, each not behind the next one, the first is not behind the third.
func TestCompareThree(t *testing.T) {
	l := append(texts("aA :", 2), "-", "-0", "0", "00", ".5", "0.50", "-.5", "-1", "1", "01", "10", "9", " 9", "9x", "-9", "-10", "a:9", "b:10", "a 9", "b 10", "\xff", "\x00", "aé", "AÉ")
	for _, o := range shortOrders() {
		notBehind := make([][]bool, len(l))
		for i := range l {
			notBehind[i] = make([]bool, len(l))
			for j := range l {
				notBehind[i][j] = keys.Compare(o, l[i], l[j]) <= 0
			}
		}
		for i := range l {
			for j := range l {
				for k := range l {
					if notBehind[i][j] && notBehind[j][k] && !notBehind[i][k] {
						t.Fatalf("Compare(%+v): %q, %q, %q", o, l[i], l[j], l[k])
					}
				}
			}
		}
	}
}

// P5.1 to P5.5, R1: orders and lines of all kinds, of which no two are chosen to fit; the seed is fixed.
func TestAny(t *testing.T) {
	r := rand.New(rand.NewSource(5))
	some := "ab AB:\t0159.-x\n\x00\xff"
	line := func() string {
		b := make([]byte, r.Intn(12))
		for i := range b {
			b[i] = some[r.Intn(len(some))]
		}
		return string(b)
	}
	for range 200000 {
		o := api.Order{From: r.Intn(7) - 1, To: r.Intn(7) - 1, Sep: []byte{0, ':', ' ', '\t', '\n', 'a', '.', 255}[r.Intn(8)]}
		o = manners(o)[r.Intn(16)]
		a, b := line(), line()
		if keys.Check(o) != mayBe(o) {
			t.Fatalf("Check(%+v)", o)
		}
		if k := keys.Key(o, a); k != slowKey(o, a) {
			t.Fatalf("Key(%+v, %q): %q, want %q", o, a, k, slowKey(o, a))
		}
		if n := keys.Compare(o, a, b); n != slowCompare(o, a, b) {
			t.Fatalf("Compare(%+v, %q, %q): %d", o, a, b, n)
		}
		if n := keys.Number(a, b); n != slowNumber(a).Cmp(slowNumber(b)) {
			t.Fatalf("Number(%q, %q): %d", a, b, n)
		}
	}
}

// R1: long lines, with as many fields as bytes.
func TestLongLines(t *testing.T) {
	for _, part := range []string{":", " ", "a ", "a:", "\t", "9", "-", ".", "0"} {
		s := strings.Repeat(part, 1<<16)
		for _, o := range []api.Order{{}, {From: 1000}, {From: 1, To: 1000}, {From: 1000, Sep: ':'}, {From: 1, To: 1000, Sep: ':'}} {
			if k := keys.Key(o, s); !strings.Contains(s, k) {
				t.Errorf("Key(%+v) of many %q", o, part)
			}
			for _, o := range manners(o) {
				if n := keys.Compare(o, s, s); n != 0 {
					t.Errorf("Compare(%+v) of many %q: %d", o, part, n)
				}
			}
		}
	}
}
