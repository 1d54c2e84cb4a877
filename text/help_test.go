package text_test

import (
	"fmt"
	"slices"
	"strings"
	"testing"

	"toolchest/api"
	"toolchest/text"
	"toolchest/tree"
)

// name lists a node in a directory, at its place, and lets Links and Parent say so.
func name(t *api.Tree, in int, called string, node int) {
	d, n := &t.Nodes[in], &t.Nodes[node]
	at := 0
	for at < len(d.List) && d.List[at].Name < called {
		at++
	}
	d.List = slices.Insert(slices.Clone(d.List), at, api.Entry{Name: called, Node: node})
	if n.Kind == api.NoDir {
		d.Links++
		n.Links, n.Parent = 2, in
	} else {
		n.Links++
	}
}

// add: a new node in a directory; its number.
func add(t *api.Tree, in int, called string, n api.Node) int {
	t.Nodes = append(t.Nodes, n)
	name(t, in, called, len(t.Nodes)-1)
	return len(t.Nodes) - 1
}

func addFile(t *api.Tree, in int, called, data string) int {
	return add(t, in, called, api.Node{Kind: api.NoFile, Mode: 0o644, Data: []byte(data)})
}

func addLink(t *api.Tree, called, target string) {
	add(t, 1, called, api.Node{Kind: api.NoLink, Mode: 0o777, Target: target})
}

// everyByte: all bytes, a byte 10 among them.
func everyByte() string {
	b := make([]byte, 256)
	for i := range b {
		b[i] = byte(i)
	}
	return string(b)
}

const secretText = "SECRET"

// chest: files of many kinds in the root: lines that are in order and those that are not, fields, no end, nothing at all; what the user 5 may not read or can't; a directory d with a file f.
func chest() api.Tree {
	t := tree.New()
	for _, f := range []struct{ called, data string }{
		{"a", "2\n10\n1\n"}, {"b", "x\ty\tz\n1\t2\t3\n"}, {"c", "end"}, {"empty", ""}, {"one", "a\nb\nb\nd\n"}, {"two", "b\nc\nd"}, {"bytes", everyByte()},
		{"runs", "k 1 x\nk 1 y\nm 2 x\nk 1 x\n"}, {"-x", "dash\n"}, {"full", strings.Repeat("0123456789abcde\n", api.MaxFile/16)},
	} {
		addFile(&t, 1, f.called, f.data)
	}
	d := add(&t, 1, "d", api.Node{Kind: api.NoDir, Mode: 0o755})
	addFile(&t, d, "f", "within\n")
	addLink(&t, "link", "a")
	addLink(&t, "gone", "nowhere")
	addLink(&t, "loop", "loop")
	t.Nodes[addFile(&t, 1, "secret", secretText)].Mode = 0
	shut := add(&t, 1, "shut", api.Node{Kind: api.NoDir, Mode: 0o700})
	addFile(&t, shut, "f", secretText)
	return t
}

// user is somebody who is not the user 0, in the root.
func user() api.Env { return api.Env{User: 5, Group: 5, Mask: 0o22, Dir: 1} }

// words of a line: what stands between blanks; in them ” is nothing, · a blank, ⏎ a byte 10.
func words(line string) []string {
	l := strings.Split(line, " ")
	for i := range l {
		l[i] = strings.NewReplacer("”", "", "·", " ", "⏎", "\n").Replace(l[i])
	}
	return l
}

// show: a result, short enough to be read.
func show(r api.Result) string {
	return fmt.Sprintf("%.200q (%d bytes) %.200q %d", r.Out, len(r.Out), r.Err, r.Status)
}

// answer: what a command is to tell.
type answer struct {
	line, in, out, err string
	status             int
}

func want(t *testing.T, l []answer) {
	t.Helper()
	for _, a := range l {
		r, ok := text.Run(chest(), user(), words(a.line), a.in)
		if !ok || r != (api.Result{Out: a.out, Err: a.err, Status: a.status}) {
			t.Errorf("%s, %.40q: %v %s", a.line, a.in, ok, show(r))
		}
	}
}

// told: a command that tells just this in Out.
func told(line, in, out string) answer { return answer{line: line, in: in, out: out} }

// wantUsage: of each of these lines, with whatever comes in.
func wantUsage(t *testing.T, lines ...string) {
	t.Helper()
	for _, line := range lines {
		args := words(line)
		for _, in := range []string{"", "a\nb\n"} {
			want(t, []answer{{line, in, "", args[0] + ": usage\n", 2}})
		}
	}
}

// run: what a command tells that is one.
func run(t *testing.T, args []string, in string) api.Result {
	t.Helper()
	r, ok := text.Run(chest(), user(), args, in)
	if !ok {
		t.Errorf("%.200q: false", args)
	}
	return r
}

// Names of the commands, by hand.
func names() []string {
	return []string{"basename", "cat", "cksum", "cmp", "comm", "cut", "dirname", "echo", "false", "fold", "head", "nl", "od", "paste", "sort", "tail", "tr", "true", "uniq", "wc"}
}

// takers: commands that take any texts, with options that let them tell something of each.
func takers() []string {
	return []string{"cat", "cksum", "cut -b 1-", "fold", "head", "nl", "od", "paste", "sort", "tail", "wc"}
}

func TestChest(t *testing.T) {
	if x := chest(); !tree.Check(x) {
		t.Error("the tests' tree may not be")
	}
}
