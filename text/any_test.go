package text_test

import (
	"math/rand"
	"reflect"
	"slices"
	"strings"
	"testing"

	"toolchest/api"
	"toolchest/text"
	"toolchest/tree"
)

func oneOf(r *rand.Rand, l ...string) string { return l[r.Intn(len(l))] }

// randomText: of few letters, so that lines and bytes are often the same.
func randomText(r *rand.Rand) string {
	var b strings.Builder
	for range r.Intn(40) {
		b.WriteString(oneOf(r, "a", "b", "B", "1", "2", "10", "-", ".", " ", "  ", "\t", ":", ",", "\n", "\n", "\n", "\n", "a\n", "a\n", "\x00", "\xff", "\r", "[", "\\"))
	}
	return b.String()
}

// inOrder: a text whose lines rise, so that comm and sort -c have something to tell.
func inOrder(r *rand.Rand) string {
	l := strings.Split(randomText(r), "\n")
	slices.Sort(l)
	return strings.Join(l, "\n")
}

func randomChest(r *rand.Rand) api.Tree {
	t := tree.New()
	for _, called := range []string{"f", "g", "h", "k"} {
		data := randomText(r)
		if r.Intn(2) == 0 {
			data = inOrder(r)
		}
		if n := addFile(&t, 1, called, data); r.Intn(6) == 0 {
			t.Nodes[n].Mode = 0
		}
	}
	add(&t, 1, "d", api.Node{Kind: api.NoDir, Mode: 0o755})
	addLink(&t, "l", "f")
	return t
}

func randomNumber(r *rand.Rand) string {
	return oneOf(r, "0", "1", "1", "2", "2", "3", "3", "5", "7", "20", "21", "+2", "-1", "x", "", "02", "99", "1000", "65536", "65537", "999999999999999999", "1000000000000000000", "2147483647", "1.5")
}

func randomSet(r *rand.Rand) string {
	return oneOf(r, "a", "b", "ab", "a-b", "[:alpha:]", "\\n", "\\n\\t", ":", "", "\\0-\\377", "b-a", "[:no:]", "1-9", "aab", "-", "\\")
}

// randomOption: of those that there are, with something told, or, seldom, one that there is not.
func randomOption(r *rand.Rand, which string) string {
	if which == "" || r.Intn(30) == 0 {
		return oneOf(r, "-q", "-Z", "--", "-:", "---", "-ax")
	}
	at := r.Intn(len(which))
	if which[at] == ':' {
		at--
	}
	return "-" + which[at:at+1]
}

func toldWith(r *rand.Rand, name, option string) string {
	switch name + option {
	case "cut-b", "cut-f":
		return oneOf(r, "1", "2", "1-2", "2-", "-2", "1,3", "3,1", "1-", "x", "", "0", "2-1")
	case "cut-d", "sort-t":
		return oneOf(r, ":", ":", " ", ",", "a", "\t", "\n", "\x00", "\xff", "ab", "")
	case "paste-d":
		return oneOf(r, ":", ":,", "", "\n", "\x00", "abc")
	case "sort-k":
		return oneOf(r, "1", "2", "2", "1,1", "2,2", "1,2", "2,3", "3", "0", "2,1", "1,", ",1", "x", "1,x", "1,2,3", "1000", "1001", "1,0", "")
	}
	return randomNumber(r)
}

// randomWords: mostly words that may be.
func randomWords(r *rand.Rand, name string) []string {
	args := []string{name}
	which := slowOptions[name]
	for range r.Intn(4) * r.Intn(2) {
		o := randomOption(r, which)
		args = append(args, o)
		if !strings.Contains(which, o[1:2]+":") {
			continue
		}
		if s := toldWith(r, name, o); r.Intn(2) == 0 && s != "" {
			args[len(args)-1] += s
		} else if r.Intn(30) > 0 {
			args = append(args, s)
		}
	}
	if name == "cut" && r.Intn(3) > 0 { // without a list it is just a usage
		args = []string{name, oneOf(r, "-b", "-f", "-f", "-sf", "-d:", "-d,"), oneOf(r, "1", "2", "1-2", "2-", "-f1")}
	}
	most := 4
	if strings.Contains("comm cmp tr basename dirname uniq", name) {
		most = 3
	}
	for range r.Intn(most) {
		if name == "tr" {
			args = append(args, randomSet(r))
		} else {
			args = append(args, oneOf(r, "f", "g", "h", "k", "-", "-", "f", "g", "l", "/f", "./g", "x", "d", "", "f/", "a//b/", "//"))
		}
	}
	return args
}

// P19.1: commands of all kinds, held against the slow reading.
func TestAny(t *testing.T) {
	r := rand.New(rand.NewSource(19))
	fine, usages, wrong := map[string]int{}, map[string]int{}, map[string]int{}
	for range 60000 {
		x, in := randomChest(r), randomText(r)
		if r.Intn(3) == 0 {
			in = inOrder(r)
		}
		e := api.Env{User: r.Intn(2), Dir: 1}
		args := randomWords(r, oneOf(r, names()...))
		n := args[0]
		slow := slowRun(x, e, args, in)
		if got, ok := text.Run(x, e, args, in); !ok || got != slow {
			t.Fatalf("%q, %q, %v: %v %s, want %s", args, in, x, ok, show(got), show(slow))
		}
		switch {
		case slow.Status == 0 && slow.Out != "":
			fine[n]++
		case strings.HasSuffix(slow.Err, "usage\n"):
			usages[n]++
		case slow.Status > 0:
			wrong[n]++
		}
	}
	plain := []string{"echo", "false", "true"}
	for _, n := range names() {
		if fine[n] < 50 && !slices.Contains([]string{"true", "false", "cmp"}, n) || usages[n] < 40 && !slices.Contains(plain, n) || wrong[n] < 50 && !slices.Contains([]string{"basename", "dirname", "echo", "true", "tr"}, n) {
			t.Error("tried too seldom:", n, fine[n], usages[n], wrong[n])
		}
	}
}

// P19.1: great numbers of lines, so that numbers are wide and texts are long, likewise.
func TestAnyLong(t *testing.T) {
	r := rand.New(rand.NewSource(1900))
	for range 300 {
		piece := randomText(r)
		x, in := randomChest(r), strings.Repeat(piece, 200)
		args := randomWords(r, oneOf(r, "cat", "cksum", "cut", "fold", "head", "nl", "od", "sort", "tail", "uniq", "wc"))
		slow := slowRun(x, user(), args, in)
		if got, ok := text.Run(x, user(), args, in); !ok || got != slow {
			t.Fatalf("%q, many times %q, %v: %v %s, want %s", args, piece, x, ok, show(got), show(slow))
		}
	}
}

// P19.2: cat of one text is that text; what head and tail tell is a part of it; sort of sort is sort; tr with two equal sets changes nothing.
func TestFollows(t *testing.T) {
	r := rand.New(rand.NewSource(192))
	e := api.Env{Dir: 1}
	for range 5000 {
		x := randomChest(r)
		data := string(x.Nodes[2].Data)
		tell := func(in string, words ...string) string {
			got, ok := text.Run(x, e, words, in)
			if !ok || got.Err != "" || got.Status != 0 {
				t.Fatalf("%q: %v %s", words, ok, show(got))
			}
			return got.Out
		}
		in := randomText(r)
		for _, c := range [][3]string{{in, in, tell(in, "cat")}, {in, in, tell(in, "cat", "-")}, {data, data, tell(in, "cat", "f")}} {
			if c[1] != c[2] {
				t.Fatalf("cat of %q: %q", c[1], c[2])
			}
		}
		n := oneOf(r, "0", "1", "2", "5", "100")
		for _, by := range []string{"-n", "-c"} {
			if out := tell(in, "head", by, n); !strings.HasPrefix(in, out) {
				t.Fatalf("head %s %s of %q: %q", by, n, in, out)
			}
			if out := tell("", "tail", by, n, "f"); !strings.HasSuffix(data, out) {
				t.Fatalf("tail %s %s of %q: %q", by, n, data, out)
			}
		}
		flags := oneOf(r, "-n", "-f", "-b", "-r", "-u", "-nr", "-fu", "-nu", "-bru", "-k2", "-k2,2", "-uk1,1", "-t:", "-nt:", "--")
		once := tell(in, "sort", flags)
		if again := tell(once, "sort", flags); again != once {
			t.Fatalf("sort %s of %q: %q, of that: %q", flags, in, once, again)
		}
		if flags != "--" {
			tell(once, "sort", "-c", flags)
		}
		set := oneOf(r, "a", "ab", "a-z", "[:alpha:]", "", "aab", "\\0-\\377", "\\n", "ba")
		if out := tell(in, "tr", set, set); out != in {
			t.Fatalf("tr of %q by %q: %q", in, set, out)
		}
	}
}

// R4, R5: what is handed in is not changed, its spare room neither; what is told hangs on nothing else than what is handed in.
func TestNotChanged(t *testing.T) {
	r := rand.New(rand.NewSource(4))
	for range 3000 {
		x, in := randomChest(r), randomText(r)
		args := randomWords(r, oneOf(r, names()...))
		spare := append(slices.Clone(args), "-", "f", "g")
		args = spare[:len(args)]
		before, words, tidy := copyOf(x), slices.Clone(spare), strings.Clone(in)
		got, _ := text.Run(x, user(), args, in)
		if !reflect.DeepEqual(x, before) || !slices.Equal(spare, words) || in != tidy {
			t.Fatalf("%q changed what was handed in", args)
		}
		if again, _ := text.Run(x, user(), args, in); again != got {
			t.Fatalf("%q: %s, again: %s", args, show(got), show(again))
		}
	}
}

// copyOf: a tree that shares nothing with the tree.
func copyOf(x api.Tree) api.Tree {
	x.Nodes = slices.Clone(x.Nodes)
	for i, n := range x.Nodes {
		x.Nodes[i].Data = slices.Clone(n.Data)
		x.Nodes[i].List = slices.Clone(n.List)
	}
	return x
}

// R4: empty lists are as none.
func TestEmptyLists(t *testing.T) {
	x := chest()
	for i := range x.Nodes {
		if x.Nodes[i].Data == nil {
			x.Nodes[i].Data = []byte{}
		}
		if x.Nodes[i].List == nil {
			x.Nodes[i].List = []api.Entry{}
		}
	}
	x.Nodes[5].Data = nil // the file that is empty
	for _, line := range []string{"cat a empty c", "wc empty", "od empty", "head empty", "cksum -", "cat x"} {
		if got, ok := text.Run(x, user(), words(line), "in"); !ok || got != run(t, words(line), "in") {
			t.Errorf("%s: %v %s", line, ok, show(got))
		}
	}
}

// R1: whatever is handed in, every call ends and none panics.
func TestWild(t *testing.T) {
	r := rand.New(rand.NewSource(1))
	ints := []int{0, 1, 2, 3, 5, -1, 511, 512, 65535, 65536, 1 << 40, 1<<63 - 1, -1 << 63}
	number := func() int { return ints[r.Intn(len(ints))] }
	for range 20000 {
		x := api.Tree{Now: number()}
		for range r.Intn(6) {
			x.Nodes = append(x.Nodes, api.Node{Kind: api.NodeKind(r.Intn(6)), Mode: number(), User: number(), Group: number(), Links: number(), Time: number(), Data: []byte(randomText(r)), Target: randomText(r), List: []api.Entry{{Name: "f", Node: number()}, {Name: "g", Node: number()}}[:r.Intn(3)], Parent: number()})
		}
		if r.Intn(2) == 0 {
			x = randomChest(r)
			x.Nodes[r.Intn(len(x.Nodes))].Parent = number()
		}
		args := randomWords(r, oneOf(r, names()...))
		for range r.Intn(3) {
			args = slices.Insert(args, r.Intn(len(args)+1), randomText(r))
		}
		e := api.Env{User: number(), Group: number(), Mask: number(), Dir: number()}
		got, ok := text.Run(x, e, args, randomText(r))
		if known := slices.Contains(names(), args[0]); ok != known || !ok && got != (api.Result{}) || ok && (got.Status < 0 || got.Status > 2) {
			t.Fatalf("%q: %v %s", args, ok, show(got))
		}
	}
}
