package calls_test

import (
	"reflect"
	"slices"
	"strconv"
	"strings"
	"testing"

	"toolchest/api"
	"toolchest/calls"
	"toolchest/tree"
)

func write(p, s string) api.Call {
	return api.Call{Kind: api.CaWrite, Path: p, Mode: 0o666, Data: []byte(s)}
}

func lengthen(p, s string) api.Call {
	return api.Call{Kind: api.CaAppend, Path: p, Mode: 0o666, Data: []byte(s)}
}

func mkdir(p string) api.Call { return api.Call{Kind: api.CaMkdir, Path: p, Mode: 0o777} }

func rmdir(p string) api.Call { return api.Call{Kind: api.CaRmdir, Path: p} }

func unlink(p string) api.Call { return api.Call{Kind: api.CaUnlink, Path: p} }

func link(p, o string) api.Call { return api.Call{Kind: api.CaLink, Path: p, Other: o} }

func symlink(p, o string) api.Call { return api.Call{Kind: api.CaSymlink, Path: p, Other: o} }

func rename(p, o string) api.Call { return api.Call{Kind: api.CaRename, Path: p, Other: o} }

func chmod(p string, mode int) api.Call { return api.Call{Kind: api.CaChmod, Path: p, Mode: mode} }

func chown(p string, user, group int) api.Call {
	return api.Call{Kind: api.CaChown, Path: p, User: user, Group: group}
}

func touch(p string, time int) api.Call { return api.Call{Kind: api.CaTouch, Path: p, Time: time} }

func tick(time int) api.Call { return api.Call{Kind: api.CaTick, Time: time} }

func by(e api.Env, c api.Call) api.Call {
	c.Env = e
	return c
}

// Who acts: the user 0, one who owns some of the sample, one who owns nothing.
var (
	master = api.Env{Mask: 0o022, Dir: 1}
	owner  = api.Env{User: 5, Group: 7, Mask: 0o022, Dir: 1}
	guest  = api.Env{User: 6, Group: 8, Dir: 1}
)

func in(e api.Env, dir int) api.Env {
	e.Dir = dir
	return e
}

// list: a name for a node of a tree that is made by hand; Links and Parent say so.
func list(t *api.Tree, dir int, name string, node int) {
	d, n := &t.Nodes[dir], &t.Nodes[node]
	at := 0
	for at < len(d.List) && d.List[at].Name < name {
		at++
	}
	d.List = slices.Insert(slices.Clone(d.List), at, api.Entry{Name: name, Node: node})
	if n.Kind == api.NoDir {
		d.Links++
		n.Links, n.Parent = 2, dir
	} else {
		n.Links++
	}
}

func add(t *api.Tree, dir int, name string, n api.Node) int {
	t.Nodes = append(t.Nodes, n)
	list(t, dir, name, len(t.Nodes)-1)
	return len(t.Nodes) - 1
}

func fileOf(data string) api.Node {
	return api.Node{Kind: api.NoFile, Mode: 0o644, Time: 3, Data: []byte(data)}
}

func linkTo(target string) api.Node {
	return api.Node{Kind: api.NoLink, Mode: 0o777, Time: 3, Target: target}
}

func dirOf(mode int) api.Node { return api.Node{Kind: api.NoDir, Mode: mode, Time: 3} }

func ownedBy(user, group int, n api.Node) api.Node {
	n.User, n.Group = user, group
	return n
}

// Numbers of the sample's nodes.
const (
	nRoot = 1 + iota
	nD    // d: a directory
	nE    // d/e: a directory, empty
	nG    // d/g: a file, d/h too
	nF    // f: a file
	nLF   // lf: a link to f
	nLD   // ld: a link to d
	nLN   // ln: a link to what is not there
	nLoop // loop: a link to itself
	nZ    // z: a directory, empty
	nO    // o: a directory of the user 5
	nMine // o/mine: a file of the user 5 that nobody else may read or write
	nSub  // o/sub: a directory of the user 5, empty
	nShut // shut: a directory that only the user 0 may go through
	nIn   // shut/in: a file
	nOpen // open: a directory that all may write
	nAll  // open/all: a file that all may write
	nSafe // open/safe: a file that only the user 0 may write
	nKept // kept: a directory that the user 0 alone may write, all may list
	nK    // kept/k: a file that all may write
	nKE   // kept/e: a directory, empty
)

// sample: at the time 9; all that is in it is older.
func sample() api.Tree {
	t := tree.New()
	t.Now = 9
	add(&t, nRoot, "d", dirOf(0o755))
	add(&t, nD, "e", dirOf(0o755))
	add(&t, nD, "g", fileOf("there"))
	list(&t, nD, "h", nG)
	add(&t, nRoot, "f", fileOf("hello"))
	add(&t, nRoot, "lf", linkTo("f"))
	add(&t, nRoot, "ld", linkTo("d"))
	add(&t, nRoot, "ln", linkTo("nothing"))
	add(&t, nRoot, "loop", linkTo("loop"))
	add(&t, nRoot, "z", dirOf(0o755))
	add(&t, nRoot, "o", ownedBy(5, 7, dirOf(0o755)))
	add(&t, nO, "mine", ownedBy(5, 7, api.Node{Kind: api.NoFile, Mode: 0o600, Time: 3, Data: []byte("mine")}))
	add(&t, nO, "sub", ownedBy(5, 7, dirOf(0o755)))
	add(&t, nRoot, "shut", dirOf(0o700))
	add(&t, nShut, "in", fileOf("in"))
	add(&t, nRoot, "open", dirOf(0o777))
	add(&t, nOpen, "all", api.Node{Kind: api.NoFile, Mode: 0o666, Time: 3, Data: []byte("all")})
	add(&t, nOpen, "safe", fileOf("safe"))
	add(&t, nRoot, "kept", dirOf(0o755))
	add(&t, nKept, "k", api.Node{Kind: api.NoFile, Mode: 0o666, Time: 3, Data: []byte("k")})
	add(&t, nKept, "e", dirOf(0o755))
	return t
}

// plain: with nil for lists that are empty.
func plain(t api.Tree) api.Tree {
	out := api.Tree{Now: t.Now, Nodes: append([]api.Node(nil), t.Nodes...)}
	for i, n := range out.Nodes {
		out.Nodes[i].Data = append([]byte(nil), n.Data...)
		out.Nodes[i].List = append([]api.Entry(nil), n.List...)
	}
	return out
}

// whole: with what lies in its spare room.
func whole(t api.Tree) api.Tree {
	out := api.Tree{Now: t.Now, Nodes: slices.Clone(t.Nodes[:cap(t.Nodes)])}
	for i, n := range out.Nodes {
		out.Nodes[i].Data = slices.Clone(n.Data[:cap(n.Data)])
		out.Nodes[i].List = slices.Clone(n.List[:cap(n.List)])
	}
	return out
}

func same(a, b api.Tree) bool { return reflect.DeepEqual(plain(a), plain(b)) }

// text: a tree in lines, to be looked at.
func text(t api.Tree) string {
	var out strings.Builder
	out.WriteString("now " + strconv.Itoa(t.Now) + "\n")
	for i, n := range t.Nodes {
		if n.Kind == api.NoNone {
			continue
		}
		out.WriteString(strconv.Itoa(i) + " " + nodeText(n) + "\n")
	}
	return out.String()
}

// nodeText: kind, mode, owners, links, time, and what is in it.
func nodeText(n api.Node) string {
	s := []string{"none", "file", "dir", "link"}[n.Kind] + " " + strconv.FormatInt(int64(n.Mode), 8)
	for _, i := range []int{n.User, n.Group, n.Links, n.Time} {
		s += " " + strconv.Itoa(i)
	}
	if n.Kind == api.NoDir {
		s += " ^" + strconv.Itoa(n.Parent)
	}
	for _, e := range n.List {
		s += " " + e.Name + "=" + strconv.Itoa(e.Node)
	}
	return strings.TrimRight(s+" "+string(n.Data[:min(len(n.Data), 40)])+n.Target, " ")
}

func short(c api.Call) string {
	s := kindNames[min(int(c.Kind), len(kindNames)-1)] + " " + strconv.Quote(c.Path[:min(len(c.Path), 60)])
	if c.Other != "" {
		s += " " + strconv.Quote(c.Other[:min(len(c.Other), 60)])
	}
	return s + " mode " + strconv.FormatInt(int64(c.Mode), 8) + " of " + strconv.Itoa(c.User) + " " + strconv.Itoa(c.Group) + " time " + strconv.Itoa(c.Time) + ", " + strconv.Itoa(len(c.Data)) + " bytes, by " + strconv.Itoa(c.Env.User) + " " + strconv.Itoa(c.Env.Group) + " in " + strconv.Itoa(c.Env.Dir)
}

var kindNames = []string{"none", "write", "append", "mkdir", "rmdir", "unlink", "link", "symlink", "rename", "chmod", "chown", "touch", "tick", "beyond"}

// do: a call, held against the slow reading; what is handed in is as it was; what is answered may be.
func do(t *testing.T, x api.Tree, c api.Call) (api.Tree, api.Errno) {
	t.Helper()
	was, data := plain(x), string(c.Data)
	got, err := calls.Do(x, c)
	if !reflect.DeepEqual(plain(x), was) || string(c.Data) != data {
		t.Fatalf("%s: changed what was handed in", short(c))
	}
	if want, wantErr := slowDo(x, c); err != wantErr || !same(got, want) {
		t.Fatalf("%s: %d\n%swant %d\n%sof\n%s", short(c), err, text(got), wantErr, text(want), text(x))
	}
	switch {
	case err == api.OK && !tree.Check(got):
		t.Fatalf("%s leaves what may not be:\n%s", short(c), text(got))
	case err != api.OK && (got.Nodes != nil || got.Now != 0):
		t.Fatalf("%s: %d, and a tree", short(c), err)
	}
	return got, err
}

// done: the tree behind calls, none of which is refused.
func done(t *testing.T, x api.Tree, all ...api.Call) api.Tree {
	t.Helper()
	for _, c := range all {
		got, err := do(t, x, c)
		if err != api.OK {
			t.Fatalf("%s: %d", short(c), err)
		}
		x = got
	}
	return x
}

func refused(t *testing.T, x api.Tree, c api.Call, want api.Errno) {
	t.Helper()
	if _, err := do(t, x, c); err != want {
		t.Errorf("%s: %d, want %d", short(c), err, want)
	}
}

// changes: which nodes a call leaves otherwise than they were, and how.
func changes(t *testing.T, x api.Tree, c api.Call) string {
	t.Helper()
	got := done(t, x, c)
	var out []string
	if got.Now != x.Now {
		out = append(out, "now "+strconv.Itoa(got.Now))
	}
	for i := range max(len(got.Nodes), len(x.Nodes)) {
		was, is := "gone", "gone"
		if i < len(x.Nodes) {
			was = nodeText(x.Nodes[i])
		}
		if i < len(got.Nodes) {
			is = nodeText(got.Nodes[i])
		}
		if was != is {
			out = append(out, strconv.Itoa(i)+" "+is)
		}
	}
	return strings.Join(out, "; ")
}

func wantChanges(t *testing.T, x api.Tree, c api.Call, want string) {
	t.Helper()
	if got := changes(t, x, c); got != want {
		t.Errorf("%s:\n%s\nwant\n%s", short(c), got, want)
	}
}
