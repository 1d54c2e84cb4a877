package tree_test

import (
	"bytes"
	"math"
	"math/rand"
	"reflect"
	"slices"
	"strconv"
	"strings"
	"testing"
	"unsafe"

	"toolchest/api"
	"toolchest/tree"
)

func file(data string) api.Node { return api.Node{Kind: api.NoFile, Mode: 0o644, Data: []byte(data)} }

func link(target string) api.Node { return api.Node{Kind: api.NoLink, Mode: 0o777, Target: target} }

func dir() api.Node { return api.Node{Kind: api.NoDir, Mode: 0o755} }

// name lists a node in a directory, at its place, and lets Links and Parent say so.
func name(t *api.Tree, in int, name string, node int) {
	d, n := &t.Nodes[in], &t.Nodes[node]
	at := 0
	for at < len(d.List) && d.List[at].Name < name {
		at++
	}
	d.List = slices.Insert(slices.Clone(d.List), at, api.Entry{Name: name, Node: node})
	if n.Kind == api.NoDir {
		d.Links++
		n.Links, n.Parent = 2, in
	} else {
		n.Links++
	}
}

// add: a new node in a directory; its number.
func add(t *api.Tree, in int, called string, n api.Node) int {
	t.Nodes = append(t.Nodes, n)
	name(t, in, called, len(t.Nodes)-1)
	return len(t.Nodes) - 1
}

// small: T of the chapter's examples.
func small() api.Tree {
	t := tree.New()
	a := add(&t, 1, "a", dir())
	add(&t, a, "b", file("hello"))
	return t
}

// Numbers of sample's nodes.
const (
	nRoot = 1 + iota
	nA    // directory a
	nFile // file f in a, and g in the root
	nLink // link l in a, and m in a
	nFree
	nB     // directory b in a
	nEmpty // file e in b
	nC     // directory c in b, with nothing in it
)

// sample: a tree with something of every kind, and a free number amid the others.
func sample() api.Tree {
	t := tree.New()
	add(&t, nRoot, "a", dir())
	add(&t, nA, "f", file("hello"))
	add(&t, nA, "l", link("x/y"))
	t.Nodes = append(t.Nodes, api.Node{})
	add(&t, nA, "b", dir())
	add(&t, nB, "e", file(""))
	add(&t, nB, "c", dir())
	name(&t, nRoot, "g", nFile)
	name(&t, nA, "m", nLink)
	return t
}

// changed: the sample with something else in it.
func changed(change func(t *api.Tree)) api.Tree {
	t := sample()
	change(&t)
	return t
}

// chain: so many directories, each one within the one ahead of it.
func chain(n int) api.Tree {
	t := tree.New()
	at := 1
	for i := range n {
		at = add(&t, at, "d"+strconv.Itoa(i), dir())
	}
	return t
}

// flat: a tree of so many nodes, none of them free: all but the root are empty files in it.
func flat(nodes int) api.Tree {
	t := tree.New()
	for i := 1; i < nodes; i++ {
		add(&t, 1, "f"+strconv.Itoa(i), file(""))
	}
	return t
}

// many: a tree with a file, and in each of as many directories as these numbers so many names of it.
func many(names ...int) api.Tree {
	t := tree.New()
	t.Nodes = append(t.Nodes, file("x"))
	for i, n := range names {
		d := add(&t, 1, "d"+strconv.Itoa(i), dir())
		for k := range n {
			t.Nodes[d].List = append(t.Nodes[d].List, api.Entry{Name: "n" + strconv.Itoa(1000+k), Node: 2})
			t.Nodes[2].Links++
		}
	}
	return t
}

func wantCheck(t *testing.T, what string, x api.Tree, want bool) {
	t.Helper()
	if got := tree.Check(x); got != want {
		t.Errorf("Check of %s: %v, want %v", what, got, want)
	}
	if slow := slowCheck(x); slow != want {
		t.Errorf("slowCheck of %s: %v, want %v", what, slow, want)
	}
	sameAsSlow(t, what, x)
}

// wantEach: whether the sample may be, with each of these numbers put into it.
func wantEach(t *testing.T, what string, put func(t *api.Tree, n int), want bool, numbers ...int) {
	t.Helper()
	for _, n := range numbers {
		wantCheck(t, what+" "+strconv.Itoa(n), changed(func(x *api.Tree) { put(x, n) }), want)
	}
}

// slowFree: whether all fields are zero.
func slowFree(n api.Node) bool {
	n.Data, n.List = append([]byte(nil), n.Data...), append([]api.Entry(nil), n.List...)
	return reflect.ValueOf(n).IsZero()
}

// slowName: may a name be?
func slowName(s string) bool {
	if s == "" || len(s) > 64 || s == "." || s == ".." {
		return false
	}
	for _, c := range []byte(s) {
		if c == 0 || c == 47 {
			return false
		}
	}
	return true
}

// slowOwn: whether a node that is not free, by itself, is what its kind may be.
func slowOwn(n api.Node) bool {
	if n.Mode < 0 || n.Mode > 511 || n.User < 0 || n.User > 65535 || n.Group < 0 || n.Group > 65535 || n.Time < 0 || n.Time > 1099511627775 {
		return false
	}
	rest := n
	switch n.Kind {
	case api.NoFile:
		rest.Data = nil
	case api.NoLink:
		rest.Target = ""
		if n.Target == "" || len(n.Target) > 1024 || bytes.Contains([]byte(n.Target), []byte{0}) || n.Mode != 511 {
			return false
		}
	case api.NoDir:
		rest.List, rest.Parent = nil, 0
	default:
		return false
	}
	rest.Kind, rest.Mode, rest.User, rest.Group, rest.Links, rest.Time = 0, 0, 0, 0, 0, 0
	return slowFree(rest) && len(n.Data) <= 65536
}

// slowDirs: of a tree whose nodes may be by themselves: whether the directories' lists, their Parents and their Links may be, and how often each node is listed.
func slowDirs(t api.Tree) (map[int]int, bool) {
	listed, all := map[int]int{}, 0
	for d, n := range t.Nodes {
		if n.Kind != api.NoDir {
			continue
		}
		dirs := 0
		for i, e := range n.List {
			if !slowName(e.Name) || i > 0 && !(n.List[i-1].Name < e.Name) || e.Node < 2 || e.Node >= len(t.Nodes) {
				return nil, false
			}
			of := t.Nodes[e.Node]
			if of.Kind == api.NoNone || of.Kind == api.NoDir && of.Parent != d {
				return nil, false
			}
			if of.Kind == api.NoDir {
				dirs++
			}
			listed[e.Node]++
		}
		all += len(n.List)
		if len(n.List) > 512 || n.Links != 2+dirs {
			return nil, false
		}
	}
	return listed, all <= 2048
}

// slowDepth: how many steps lead up to the root; -1: more than may be.
func slowDepth(t api.Tree, dir int) int {
	for steps := 0; steps <= 32; steps++ {
		if dir == 1 {
			return steps
		}
		dir = t.Nodes[dir].Parent
	}
	return -1
}

// slowCheck says once more when a tree may be, by going up from each directory instead of down from the root.
func slowCheck(t api.Tree) bool {
	last := len(t.Nodes) - 1
	if last < 1 || last > 512 || slowFree(t.Nodes[last]) || t.Now < 0 || t.Now > 1099511627775 {
		return false
	}
	data := 0
	for i, n := range t.Nodes {
		if i == 0 && !slowFree(n) || i > 0 && !slowFree(n) && !slowOwn(n) {
			return false
		}
		data += len(n.Data)
	}
	if data > 1048576 || t.Nodes[1].Kind != api.NoDir || t.Nodes[1].Parent != 1 {
		return false
	}
	listed, ok := slowDirs(t)
	for i := 2; ok && i <= last; i++ {
		n := t.Nodes[i]
		switch n.Kind {
		case api.NoDir:
			ok = listed[i] == 1 && slowDepth(t, i) > 0
		case api.NoFile, api.NoLink:
			ok = listed[i] > 0 && n.Links == listed[i]
		}
	}
	return ok
}

// slowPath: the path of a directory of a tree that may be, by its Parents' paths.
func slowPath(t api.Tree, dir int) string {
	up := t.Nodes[dir].Parent
	for _, e := range t.Nodes[up].List {
		if e.Node == dir && up == 1 {
			return "/" + e.Name
		} else if e.Node == dir {
			return slowPath(t, up) + "/" + e.Name
		}
	}
	return "/"
}

// slowStat: of a node of a tree that may be.
func slowStat(t api.Tree, n int) api.Stat {
	of := t.Nodes[n]
	size := map[api.NodeKind]int{api.NoFile: len(of.Data), api.NoDir: len(of.List), api.NoLink: len(of.Target)}[of.Kind]
	return api.Stat{Node: n, Kind: of.Kind, Mode: of.Mode, User: of.User, Group: of.Group, Links: of.Links, Size: size, Time: of.Time}
}

// wrongNumbers: of no node of any tree.
var wrongNumbers = []int{-1, -2, 0, 514, 1 << 31, 1 << 32, 1<<32 + 1, math.MaxInt, math.MinInt, math.MinInt + 1}

// sameAsSlow holds all that is told of a tree against the slow ways.
func sameAsSlow(t *testing.T, what string, x api.Tree) {
	t.Helper()
	ok := slowCheck(x)
	if got := tree.Check(x); got != ok {
		t.Fatalf("Check of %s: %v, want %v: %.300v", what, got, ok, x)
	}
	nodes, data := 0, 0
	for n, of := range x.Nodes {
		there := ok && !slowFree(of)
		if there {
			nodes++
			data += len(of.Data)
		}
		sameStat(t, what, x, n, there)
		sameDir(t, what, x, n, there && of.Kind == api.NoDir)
	}
	if n, b := tree.Sizes(x); n != nodes || b != data {
		t.Fatalf("Sizes of %s: %d %d, want %d %d", what, n, b, nodes, data)
	}
	for _, n := range append([]int{len(x.Nodes), len(x.Nodes) + 1}, wrongNumbers...) {
		sameStat(t, what, x, n, false)
		sameDir(t, what, x, n, false)
	}
}

func sameStat(t *testing.T, what string, x api.Tree, n int, there bool) {
	t.Helper()
	var want api.Stat
	err := api.ErrArg
	if there {
		want, err = slowStat(x, n), api.OK
	}
	if s, e := tree.Stat(x, n); s != want || e != err {
		t.Fatalf("Stat(%s, %d): %+v %d, want %+v %d", what, n, s, e, want, err)
	}
}

// sameDir: of a node that is a directory of a tree that may be, or is none.
func sameDir(t *testing.T, what string, x api.Tree, n int, isDir bool) {
	t.Helper()
	path, depth, err := "", 0, api.ErrArg
	if isDir {
		path, depth, err = slowPath(x, n), slowDepth(x, n), api.OK
	}
	if d := tree.Depth(x, n); d != depth {
		t.Fatalf("Depth(%s, %d): %d, want %d", what, n, d, depth)
	}
	if p, e := tree.Path(x, n); p != path || e != err {
		t.Fatalf("Path(%s, %d): %q %d, want %q %d", what, n, p, e, path, err)
	}
	names := []string{"", ".", "..", "/", "a", "b", "e", "f", "l", "d0", "zz"}
	want := map[string]int{}
	if n >= 0 && n < len(x.Nodes) {
		for i, e := range x.Nodes[n].List {
			if i < 8 || i+8 > len(x.Nodes[n].List) { // a long list's ends are enough here
				names = append(names, e.Name, e.Name+"x", e.Name[:max(len(e.Name)-1, 0)], e.Name+"/", "/"+e.Name)
			}
			if isDir {
				want[e.Name] = e.Node
			}
		}
	}
	for _, s := range names {
		if got := tree.Find(x, n, s); got != want[s] {
			t.Fatalf("Find(%s, %d, %.80q): %d, want %d", what, n, s, got, want[s])
		}
	}
}

// P12.1, P12.2, P12.3, P12.4: the chapter's examples.
func TestExamples(t *testing.T) {
	x := small()
	wantCheck(t, "T", x, true)
	wantCheck(t, "no nodes", api.Tree{}, false)
	for _, c := range []struct {
		dir, want int
		name      string
	}{{1, 2, "a"}, {2, 3, "b"}, {3, 0, "b"}} {
		if got := tree.Find(x, c.dir, c.name); got != c.want {
			t.Errorf("Find(T, %d, %s): %d, want %d", c.dir, c.name, got, c.want)
		}
	}
	if s, e := tree.Stat(x, 2); e != api.OK || s != (api.Stat{Node: 2, Kind: api.NoDir, Mode: 0o755, Links: 2, Size: 1}) {
		t.Errorf("Stat(T, 2): %+v %d", s, e)
	}
	if s, e := tree.Stat(x, 9); e != api.ErrArg || s != (api.Stat{}) {
		t.Errorf("Stat(T, 9): %+v %d", s, e)
	}
	if n, b := tree.Sizes(x); n != 3 || b != 5 {
		t.Errorf("Sizes(T): %d %d", n, b)
	}
	if n := tree.Depth(x, 2); n != 1 {
		t.Errorf("Depth(T, 2): %d", n)
	}
	if p, e := tree.Path(x, 2); p != "/a" || e != api.OK {
		t.Errorf("Path(T, 2): %q %d", p, e)
	}
	if p, e := tree.Path(x, 3); p != "" || e != api.ErrArg {
		t.Errorf("Path(T, 3): %q %d", p, e)
	}
}

// P12.1, R4: New, twice: the two trees share nothing, nor do they with a third one.
func TestNew(t *testing.T) {
	want := api.Tree{Nodes: []api.Node{{}, {Kind: api.NoDir, Mode: 493, Links: 2, Parent: 1}}}
	a, b := tree.New(), tree.New()
	for _, x := range []api.Tree{a, b} {
		if !reflect.DeepEqual(x, want) {
			t.Errorf("New: %+v, want %+v", x, want)
		}
		wantCheck(t, "New", x, true)
	}
	for i := range a.Nodes {
		a.Nodes[i] = api.Node{Kind: 9, Mode: -1, List: []api.Entry{{Name: "x", Node: 3}}, Data: []byte("x")}
	}
	a.Nodes = append(a.Nodes[:cap(a.Nodes)], api.Node{Mode: 7})
	a.Now = 5
	if c := tree.New(); !reflect.DeepEqual(b, want) || !reflect.DeepEqual(c, want) {
		t.Errorf("New, behind a change of another one: %+v, %+v", b, c)
	}
}

// P12.1: how many nodes there are: none, one, two, MaxNodes + 1, one more.
func TestHowManyNodes(t *testing.T) {
	wantCheck(t, "a list of no nodes", api.Tree{Nodes: []api.Node{}}, false)
	wantCheck(t, "no nodes, with room", api.Tree{Nodes: tree.New().Nodes[:0]}, false)
	wantCheck(t, "one node", api.Tree{Nodes: make([]api.Node, 1)}, false)
	wantCheck(t, "one node, with the root behind it", api.Tree{Nodes: tree.New().Nodes[:1]}, false)
	wantCheck(t, "the root as the one node", api.Tree{Nodes: tree.New().Nodes[1:]}, false)
	wantCheck(t, "two nodes: a root alone", tree.New(), true)
	wantCheck(t, "two nodes that are free", api.Tree{Nodes: make([]api.Node, 2)}, false)
	wantCheck(t, "MaxNodes", flat(api.MaxNodes-1), true)
	wantCheck(t, "MaxNodes and none", flat(api.MaxNodes), true)
	if x := flat(api.MaxNodes); len(x.Nodes) != 513 {
		t.Errorf("flat: %d nodes", len(x.Nodes))
	}
	wantCheck(t, "one node more", flat(api.MaxNodes+1), false)
	wantCheck(t, "many nodes more", flat(2*api.MaxNodes), false)

	gap := tree.New() // free numbers from 2 on, and a file as the last one
	for len(gap.Nodes) < api.MaxNodes {
		gap.Nodes = append(gap.Nodes, api.Node{})
	}
	wantCheck(t, "free nodes behind the root", gap, false)
	add(&gap, 1, "f", file("x"))
	wantCheck(t, "free nodes up to the last one", gap, true)
	gap = tree.New()
	for len(gap.Nodes) <= api.MaxNodes {
		gap.Nodes = append(gap.Nodes, api.Node{})
	}
	add(&gap, 1, "f", file("x"))
	wantCheck(t, "free nodes, and the last one beyond MaxNodes", gap, false)
}

// P12.1: a last node that is free; a node 0 that is not; a root that is none, or no directory.
func TestEnds(t *testing.T) {
	wantCheck(t, "the sample", sample(), true)
	wantCheck(t, "a free last node", changed(func(x *api.Tree) { x.Nodes = append(x.Nodes, api.Node{}) }), false)
	wantCheck(t, "two free last nodes", changed(func(x *api.Tree) { x.Nodes = append(x.Nodes, api.Node{}, api.Node{}) }), false)
	wantCheck(t, "a free node behind the root alone", api.Tree{Nodes: append(tree.New().Nodes, api.Node{})}, false)
	for _, n := range []api.Node{file("x"), file(""), link("x"), dir(), {Kind: api.NoDir, Mode: 493, Links: 2, Parent: 1}, {Kind: api.NoDir, Links: 2}} {
		wantCheck(t, "a node 0 that is not free", changed(func(x *api.Tree) { x.Nodes[0] = n }), false)
		wantCheck(t, "a node 0 that is not free, with a root alone", api.Tree{Nodes: []api.Node{n, tree.New().Nodes[1]}}, false)
	}
	for _, n := range []api.Node{{}, file(""), link("x"), {Kind: api.NoFile, Links: 1}, {Kind: api.NoLink, Mode: 511, Target: "x", Links: 1}, {Kind: api.NoFile, Links: 2, Parent: 1}, {Kind: 4, Links: 2, Parent: 1}} {
		wantCheck(t, "a root that is no directory", api.Tree{Nodes: []api.Node{{}, n}}, false)
		wantCheck(t, "a root that is no directory, with nodes behind it", changed(func(x *api.Tree) { x.Nodes[1] = n }), false)
		wantCheck(t, "a root that is no directory, and lists itself", api.Tree{Nodes: []api.Node{{}, {Kind: n.Kind, Links: 1, Mode: n.Mode, Target: n.Target, List: []api.Entry{{Name: "x", Node: 1}}}}}, false)
	}
}

// fieldChanges: each of them makes one field of a free node one that is not zero.
func fieldChanges() map[string]func(n *api.Node) {
	return map[string]func(n *api.Node){
		"Kind": func(n *api.Node) { n.Kind = api.NoFile }, "Mode": func(n *api.Node) { n.Mode = 1 }, "User": func(n *api.Node) { n.User = 1 }, "Group": func(n *api.Node) { n.Group = 1 },
		"Links": func(n *api.Node) { n.Links = 1 }, "Time": func(n *api.Node) { n.Time = 1 }, "Data": func(n *api.Node) { n.Data = []byte{0} }, "Target": func(n *api.Node) { n.Target = "x" },
		"List": func(n *api.Node) { n.List = []api.Entry{{Name: "x", Node: nFile}} }, "an empty entry": func(n *api.Node) { n.List = make([]api.Entry, 1) }, "Parent": func(n *api.Node) { n.Parent = 1 },
		"Mode below 0": func(n *api.Node) { n.Mode = -1 }, "Links below 0": func(n *api.Node) { n.Links = -1 }, "Parent below 0": func(n *api.Node) { n.Parent = -1 },
	}
}

// P12.1: a free node, one of whose fields is not zero; node 0, too. Lists that are empty are as none.
func TestFree(t *testing.T) {
	for what, change := range fieldChanges() {
		wantCheck(t, "a free node with "+what, changed(func(x *api.Tree) { change(&x.Nodes[nFree]) }), false)
		wantCheck(t, "a node 0 with "+what, changed(func(x *api.Tree) { change(&x.Nodes[0]) }), false)
		x := tree.New()
		change(&x.Nodes[0])
		wantCheck(t, "a root alone, and a node 0 with "+what, x, false)
		wantCheck(t, "a last node that is none, with "+what, changed(func(x *api.Tree) {
			x.Nodes = append(x.Nodes, api.Node{})
			change(&x.Nodes[len(x.Nodes)-1])
		}), false)
	}
	room := []api.Entry{{Name: "x", Node: nFile}}
	wantCheck(t, "lists that are empty", changed(func(x *api.Tree) {
		for i := range x.Nodes {
			if len(x.Nodes[i].Data) == 0 {
				x.Nodes[i].Data = []byte("abc")[:0]
			}
			if len(x.Nodes[i].List) == 0 {
				x.Nodes[i].List = room[:0]
			}
		}
	}), true)
}

// P12.1: each Kind there is, and those that there are not.
func TestKinds(t *testing.T) {
	for k := range 256 {
		kind := api.NodeKind(k)
		for _, n := range []int{nFile, nLink, nFree, nB, nEmpty, nC, nRoot, 0} {
			x := changed(func(x *api.Tree) { x.Nodes[n].Kind = kind })
			wantCheck(t, "Kind "+strconv.Itoa(k)+" of the node "+strconv.Itoa(n), x, kind == sample().Nodes[n].Kind)
		}
	}
	for _, kind := range []api.NodeKind{api.NoFile, api.NoDir, api.NoLink} {
		x := tree.New()
		n := api.Node{Kind: kind, Mode: 511}
		if kind == api.NoLink {
			n.Target = "x"
		}
		add(&x, 1, "n", n)
		wantCheck(t, "a node of the Kind "+strconv.Itoa(int(kind)), x, true)
	}
}

// P12.1: Mode, User, Group, Time and Now, at their edges and beyond.
func TestNumbers(t *testing.T) {
	for _, n := range []int{nRoot, nA, nFile, nB, nEmpty, nC} {
		mode := func(x *api.Tree, v int) { x.Nodes[n].Mode = v }
		wantEach(t, "Mode", mode, true, 0, 1, 64, 420, 493, 510, 511)
		wantEach(t, "Mode", mode, false, 512, 513, 1023, 1024, -1, -511, -512, 1<<32, 1<<32+1, math.MaxInt, math.MinInt)
	}
	modeOfLink := func(x *api.Tree, v int) { x.Nodes[nLink].Mode = v }
	wantEach(t, "Mode of a link", modeOfLink, true, 511)
	wantEach(t, "Mode of a link", modeOfLink, false, 0, 1, 420, 493, 510, 512, 1023, -1, -511, 1<<32+511, math.MaxInt, math.MinInt)
	for _, n := range []int{nRoot, nA, nFile, nLink, nB, nEmpty, nC} {
		user := func(x *api.Tree, v int) { x.Nodes[n].User = v }
		group := func(x *api.Tree, v int) { x.Nodes[n].Group = v }
		for _, put := range []func(x *api.Tree, v int){user, group} {
			wantEach(t, "User or Group", put, true, 0, 1, 1000, 65534, 65535)
			wantEach(t, "User or Group", put, false, 65536, 65537, 1<<17, -1, -65535, -65536, 1<<31, 1<<32, math.MaxInt, math.MinInt)
		}
		at := func(x *api.Tree, v int) { x.Nodes[n].Time = v }
		wantEach(t, "Time", at, true, 0, 1, 1<<31, 1<<32, 1<<40-2, api.MaxTime)
		wantEach(t, "Time", at, false, api.MaxTime+1, api.MaxTime+2, 1<<41, -1, -api.MaxTime, math.MaxInt, math.MinInt)
	}
	now := func(x *api.Tree, v int) { x.Now = v }
	wantEach(t, "Now", now, true, 0, 1, 1<<31, 1<<32, 1<<40-2, api.MaxTime)
	wantEach(t, "Now", now, false, api.MaxTime+1, api.MaxTime+2, 1<<41, -1, -api.MaxTime, math.MaxInt, math.MinInt)
	wantCheck(t, "a Time behind Now", changed(func(x *api.Tree) { x.Now, x.Nodes[nFile].Time = 5, 6 }), true)
}

// P12.1: what another kind has, each field in turn.
func TestOfAnotherKind(t *testing.T) {
	data := func(n *api.Node) { n.Data = []byte{0} }
	target := func(n *api.Node) { n.Target = "x" }
	list := func(n *api.Node) { n.List = []api.Entry{{Name: "x", Node: nEmpty}} }
	for n, changes := range map[int][]func(n *api.Node){
		nFile:  {target, list},
		nEmpty: {target, list},
		nLink:  {data, list},
		nRoot:  {data, target},
		nB:     {data, target},
		nC:     {data, target},
	} {
		for i, change := range changes {
			wantCheck(t, "the node "+strconv.Itoa(n)+", change "+strconv.Itoa(i), changed(func(x *api.Tree) { change(&x.Nodes[n]) }), false)
		}
	}
	for _, n := range []int{nFile, nLink, nEmpty} {
		wantEach(t, "Parent of what is no directory:", func(x *api.Tree, v int) { x.Nodes[n].Parent = v }, false, 1, 2, nB, n, -1, 99, math.MaxInt, math.MinInt)
		// A list whose name is counted in Links, so that it is the list alone that may not be.
		wantCheck(t, "a list of what is no directory", changed(func(x *api.Tree) { name(x, n, "x", nEmpty) }), false)
	}
}

// P12.1: Data of MaxFile bytes and of one more; all files together of MaxTree bytes and of one more.
func TestData(t *testing.T) {
	for long, want := range map[int]bool{0: true, 1: true, 65535: true, api.MaxFile: true, api.MaxFile + 1: false, api.MaxFile + 2: false, api.MaxTree: false} {
		wantCheck(t, "Data of "+strconv.Itoa(long), changed(func(x *api.Tree) { x.Nodes[nEmpty].Data = make([]byte, long) }), want && long+5 <= api.MaxTree)
	}
	whole := func() api.Tree { // MaxTree bytes, in 16 files of MaxFile
		x := tree.New()
		for i := range 16 {
			add(&x, 1, "f"+strconv.Itoa(i), file(strings.Repeat("x", api.MaxFile)))
		}
		return x
	}
	x := whole()
	wantCheck(t, "files of MaxTree bytes", x, true)
	if n, b := tree.Sizes(x); n != 17 || b != api.MaxTree {
		t.Errorf("Sizes: %d %d", n, b)
	}
	name(&x, 1, "g", 2)
	wantCheck(t, "files of MaxTree bytes, one of them with two names", x, true)
	add(&x, 1, "e", file(""))
	wantCheck(t, "files of MaxTree bytes, and an empty one", x, true)
	add(&x, 1, "l", link(strings.Repeat("x", api.MaxPath)))
	wantCheck(t, "files of MaxTree bytes, and a link", x, true)
	add(&x, 1, "o", file("x"))
	wantCheck(t, "files of MaxTree bytes and one more", x, false)
	x = whole()
	x.Nodes[9].Data = x.Nodes[9].Data[1:]
	add(&x, 1, "o", file("x"))
	wantCheck(t, "files of MaxTree bytes, one of them of one byte", x, true)
	add(&x, 1, "p", file("x"))
	wantCheck(t, "files of MaxTree bytes and one more, in small ones", x, false)
	big := make([]byte, api.MaxFile)
	x = flat(api.MaxNodes)
	for i := 2; i < len(x.Nodes); i++ {
		x.Nodes[i].Data = big
	}
	wantCheck(t, "all files of MaxFile bytes", x, false)
}

// P12.1: a link's Target.
func TestTarget(t *testing.T) {
	long := strings.Repeat("t/", api.MaxPath)
	for s, want := range map[string]bool{
		"": false, "x": true, "/": true, ".": true, "..": true, "a b\n": true, "\xff\x80": true, "\x01": true, "//": true, strings.Repeat("n", 65): true,
		long[:1023]: true, long[:1024]: true, long[:1025]: false, long: false,
		"\x00": false, "\x00x": false, "x\x00": false, "x\x00y": false, long[:1023] + "\x00": false, long[:1024] + "\x00": false, "\x00" + long[:1023]: false,
	} {
		wantCheck(t, "a Target "+strconv.Quote(s), changed(func(x *api.Tree) { x.Nodes[nLink].Target = s }), want)
	}
	for c := range 256 {
		wantCheck(t, "a Target with the byte "+strconv.Itoa(c), changed(func(x *api.Tree) { x.Nodes[nLink].Target = "a" + string([]byte{byte(c)}) }), c != 0)
	}
}

// P12.1: names that may be, and those that may not.
func TestNames(t *testing.T) {
	long := strings.Repeat("n", api.MaxName)
	for s, want := range map[string]bool{
		"": false, ".": false, "..": false, "...": true, "....": true, ".a": true, "..a": true, "a.": true, "a..": true, ". ": true, " ": true, "\n": true, "\\": true, "*": true, "-": true,
		"a": true, "\x01": true, "\xff": true, "\x80\x81": true, "ä": true, ".\x01": true,
		long[1:]: true, long: true, long + "n": false, long + long: false, long[1:] + "ä": false,
		"/": false, "a/": false, "/a": false, "a/b": false, "//": false, "./a": false, "../": false, long[1:] + "/": false,
		"\x00": false, "a\x00": false, "\x00a": false, "a\x00b": false, ".\x00": false, long[1:] + "\x00": false,
	} {
		for _, n := range []int{nEmpty, nC} {
			x := changed(func(x *api.Tree) {
				for i := range x.Nodes[nB].List {
					if x.Nodes[nB].List[i].Node == n {
						x.Nodes[nB].List[i].Name = s
					}
				}
				slices.SortFunc(x.Nodes[nB].List, func(a, b api.Entry) int { return strings.Compare(a.Name, b.Name) })
			})
			wantCheck(t, "a name "+strconv.Quote(s), x, want)
			if got := tree.Find(x, nB, s); want && got != n || !want && got != 0 {
				t.Errorf("Find %q: %d", s, got)
			}
		}
	}
	for c := range 256 {
		s := string([]byte{byte(c)})
		for _, called := range []string{s, s + s, "a" + s, s + "a", "a" + s + "b", long[1:] + s} {
			x := tree.New()
			n := add(&x, 1, called, file(""))
			want := c != 0 && c != '/' && called != "." && called != ".."
			wantCheck(t, "a name "+strconv.Quote(called), x, want)
			if want && tree.Find(x, 1, called) != n {
				t.Errorf("Find %q", called)
			}
		}
	}
}

// P12.1: names that do not rise.
func TestRising(t *testing.T) {
	list := func(names ...string) api.Tree {
		x := tree.New()
		for _, s := range names {
			x.Nodes[1].List = append(x.Nodes[1].List, api.Entry{Name: s, Node: len(x.Nodes)})
			x.Nodes = append(x.Nodes, api.Node{Kind: api.NoFile, Links: 1})
		}
		return x
	}
	for _, c := range []struct {
		want  bool
		names []string
	}{
		{true, nil}, {true, []string{"a"}}, {true, []string{"a", "b"}}, {false, []string{"b", "a"}}, {false, []string{"a", "a"}},
		{true, []string{"a", "aa", "ab", "b"}}, {false, []string{"aa", "a"}}, {false, []string{"a", "b", "aa"}}, {false, []string{"a", "b", "b"}}, {false, []string{"a", "a", "b"}}, {false, []string{"b", "a", "c"}}, {false, []string{"a", "c", "b", "d"}},
		{true, []string{"A", "Z", "_", "a", "z", "\x7f", "\x80", "\xff"}}, {false, []string{"a", "A"}}, {false, []string{"a", "B"}}, {false, []string{"\xff", "a"}}, {true, []string{"a", "\xff"}}, {false, []string{"\x80", "\x7f"}},
		{true, []string{"10", "9"}}, {false, []string{"9", "10"}}, {true, []string{"\x01", " ", "!"}}, {true, []string{"a", "a\x01"}}, {true, []string{"...", "..a"}},
	} {
		wantCheck(t, strings.Join(c.names, " "), list(c.names...), c.want)
	}
	x := changed(func(x *api.Tree) { name(x, nRoot, "h", nFile) }) // two names of one node
	wantCheck(t, "two names of one node", x, true)
	x.Nodes[nRoot].List[2].Name = "g"
	wantCheck(t, "one name twice, of one node", x, false)
	x.Nodes[nRoot].List[2].Name = "fz"
	wantCheck(t, "two names of one node, falling", x, false)
}

// P12.1: an entry's node that is none, the root, below 0, free, beyond the last one.
func TestEntries(t *testing.T) {
	for _, n := range []int{0, nRoot, -1, -2, nFree, nC + 1, nC + 2, 513, 1 << 32, 1<<32 + nFile, math.MaxInt, math.MinInt, -nFile} {
		for _, d := range []int{nRoot, nA, nB, nC} {
			wantCheck(t, "an entry more, of the node "+strconv.Itoa(n), changed(func(x *api.Tree) {
				x.Nodes[d].List = append(x.Nodes[d].List, api.Entry{Name: "z", Node: n})
			}), false)
			wantCheck(t, "an entry more, counted as a directory's, of the node "+strconv.Itoa(n), changed(func(x *api.Tree) {
				x.Nodes[d].List = append(x.Nodes[d].List, api.Entry{Name: "z", Node: n})
				x.Nodes[d].Links++
			}), false)
		}
		wantCheck(t, "an entry instead, of the node "+strconv.Itoa(n), changed(func(x *api.Tree) { x.Nodes[nB].List[1].Node = n }), false)
	}
	last := tree.New()
	add(&last, 1, "a", file(""))
	wantCheck(t, "an entry of the last node", last, true)
	last.Nodes[1].List[0].Node = 3
	wantCheck(t, "an entry of the one behind the last node", last, false)
}

// P12.1: a Parent that is another directory than the one that lists it; the root's.
func TestParent(t *testing.T) {
	for _, n := range []int{nA, nB, nC} {
		for p := -2; p < 12; p++ {
			wantCheck(t, "the Parent "+strconv.Itoa(p)+" of "+strconv.Itoa(n), changed(func(x *api.Tree) { x.Nodes[n].Parent = p }), p == sample().Nodes[n].Parent)
		}
		wantEach(t, "a Parent", func(x *api.Tree, v int) { x.Nodes[n].Parent = v }, false, math.MaxInt, math.MinInt, 1<<32+1, -1)
	}
	root := func(x *api.Tree, v int) { x.Nodes[1].Parent = v }
	wantEach(t, "the root's Parent", root, true, 1)
	wantEach(t, "the root's Parent", root, false, 0, 2, nB, nC, -1, 99, math.MaxInt, math.MinInt)
	x := tree.New()
	x.Nodes[1].Parent = 0
	wantCheck(t, "a root alone without a Parent", x, false)
}

// P12.1: a directory that is listed twice, or nowhere, or in a ring.
func TestListedOnce(t *testing.T) {
	for _, d := range []int{nRoot, nA, nB, nC} {
		for _, n := range []int{nA, nB, nC} {
			x := changed(func(x *api.Tree) { name(x, d, "z", n) })
			x.Nodes[n].Links = sample().Nodes[n].Links
			if n == d {
				x.Nodes[n].Links++
			}
			wantCheck(t, "listed twice", x, false)
			x.Nodes[n].Parent = sample().Nodes[n].Parent
			wantCheck(t, "listed twice, its Parent as it was", x, false)
		}
	}
	nowhere := changed(func(x *api.Tree) {
		x.Nodes[nB].List = x.Nodes[nB].List[1:]
		x.Nodes[nB].Links--
	})
	wantCheck(t, "a directory that is listed nowhere", nowhere, false)
	nowhere.Nodes = nowhere.Nodes[:nC]
	wantCheck(t, "a directory that is not there any more", nowhere, true)

	for long := 1; long < 5; long++ { // a ring of directories, each listed once, by its Parent, and none in the root
		x := tree.New()
		for i := range long {
			next := 2 + (i+1)%long
			x.Nodes = append(x.Nodes, api.Node{Kind: api.NoDir, Links: 3, Parent: 2 + (i+long-1)%long, List: []api.Entry{{Name: "r", Node: next}}})
		}
		wantCheck(t, "a ring", x, false)
		y := x
		y.Nodes = slices.Clone(x.Nodes)
		y.Nodes[1].List, y.Nodes[1].Links = []api.Entry{{Name: "r", Node: 2}}, 3
		wantCheck(t, "a ring that the root leads to", y, false)
		y.Nodes[2].Parent = 1
		wantCheck(t, "a ring that the root leads to, as its Parent", y, false)
		add(&x, 2, "f", file("x"))
		wantCheck(t, "a ring with a file in it", x, false)
	}
	aside := tree.New() // a directory that leads nowhere, with a file in it
	aside.Nodes = append(aside.Nodes, api.Node{Kind: api.NoDir, Links: 2, Parent: 1})
	add(&aside, 2, "f", file("x"))
	wantCheck(t, "a directory with a file that no list leads to", aside, false)
	name(&aside, 1, "f", 3)
	wantCheck(t, "a directory that no list leads to, with a file that one does", aside, false)
	name(&aside, 1, "d", 2)
	wantCheck(t, "a directory that a list leads to", aside, true)
}

// P12.1, P12.4: directories within one another, as deep as may be, and one more.
func TestDeep(t *testing.T) {
	for n := range 40 {
		x := chain(n)
		wantCheck(t, strconv.Itoa(n)+" directories within one another", x, n <= api.MaxDeep)
		deepest := n + 1
		add(&x, deepest, "f", file("x"))
		add(&x, deepest, "l", link("x"))
		wantCheck(t, "these, with a file in the last one", x, n <= api.MaxDeep)
		want := "/"
		for i := range n {
			want += "d" + strconv.Itoa(i)
			if i < n-1 {
				want += "/"
			}
		}
		p, e := tree.Path(x, deepest)
		if d := tree.Depth(x, deepest); n <= api.MaxDeep && (d != n || p != want || e != api.OK) || n > api.MaxDeep && (d != 0 || p != "" || e != api.ErrArg) {
			t.Errorf("Depth, Path of %d within one another: %d %q %d", n, d, p, e)
		}
	}
	x := chain(api.MaxDeep)
	for i := range 100 { // many that are as deep
		add(&x, api.MaxDeep, "e"+strconv.Itoa(i), dir())
	}
	wantCheck(t, "many directories as deep as may be", x, true)
	add(&x, api.MaxDeep+50, "f", dir())
	wantCheck(t, "one of them with a directory in it", x, false)

	// The first node, the last one, or one amid them leads to the others: their numbers make no difference.
	order := []int{7, 3, 12, 2, 9, 5, 11, 4, 10, 6, 8}
	y := tree.New()
	for range order {
		y.Nodes = append(y.Nodes, dir())
	}
	at, want := 1, ""
	for i, n := range order {
		name(&y, at, "n"+strconv.Itoa(n), n)
		want += "/n" + strconv.Itoa(n)
		wantCheck(t, "directories in any order", y, i == len(order)-1)
		at = n
	}
	if p, e := tree.Path(y, 8); p != want || e != api.OK || tree.Depth(y, 8) != len(order) {
		t.Errorf("Path: %q %d", p, e)
	}
}

// P12.1: files and links that are listed nowhere, once, several times.
func TestListedOften(t *testing.T) {
	for _, n := range []api.Node{file("x"), file(""), link("x")} {
		for often := range 6 {
			x := small()
			x.Nodes = append(x.Nodes, n)
			for i := range often {
				name(&x, 1+i%2, "n"+strconv.Itoa(i), 4)
			}
			wantCheck(t, "listed "+strconv.Itoa(often)+" times", x, often > 0)
			for links := -1; links < 8; links++ {
				x.Nodes[4].Links = links
				wantCheck(t, "listed "+strconv.Itoa(often)+" times, Links "+strconv.Itoa(links), x, often > 0 && links == often)
			}
		}
	}
}

// P12.1: a directory that lists MaxNodes names and one more; all together 4 times as many and one more.
func TestManyNames(t *testing.T) {
	wantCheck(t, "MaxNodes - 1 names", many(511), true)
	wantCheck(t, "MaxNodes names", many(512), true)
	wantCheck(t, "MaxNodes names and one more", many(513), false)
	wantCheck(t, "MaxNodes names in the last one", many(0, 1, 512), true)
	wantCheck(t, "MaxNodes names and one more in the last one", many(0, 1, 513), false)
	if s, e := tree.Stat(many(512), 3); s.Size != 512 || e != api.OK {
		t.Errorf("Stat of MaxNodes names: %+v %d", s, e)
	}
	root := tree.New()
	root.Nodes = append(root.Nodes, file("x"))
	for i := range 513 {
		wantCheck(t, "names in the root", root, i > 0)
		name(&root, 1, "n"+strconv.Itoa(i), 2)
	}
	wantCheck(t, "MaxNodes names and one more in the root", root, false)

	// The root's names, one for each directory, count as well.
	wantCheck(t, "4 times MaxNodes names less one", many(512, 512, 512, 506), true)
	wantCheck(t, "4 times MaxNodes names less one, in five", many(512, 512, 506, 500, 12), true)
	wantCheck(t, "4 times MaxNodes names", many(512, 512, 512, 508), true)
	wantCheck(t, "4 times MaxNodes names, in five", many(512, 512, 512, 506, 1), true)
	wantCheck(t, "4 times MaxNodes names and one more", many(512, 512, 512, 509), false)
	wantCheck(t, "4 times MaxNodes names and one more, in five", many(512, 512, 512, 506, 2), false)
	wantCheck(t, "4 times MaxNodes names and four more", many(512, 512, 512, 512), false)
	wantCheck(t, "5 times MaxNodes names", many(512, 512, 512, 512, 507), false)
}

// P12.1: Links that are one too many and one too few.
func TestLinks(t *testing.T) {
	for n, right := range map[int]int{nRoot: 3, nA: 3, nB: 3, nC: 2, nFile: 2, nLink: 2, nEmpty: 1} {
		if got := sample().Nodes[n].Links; got != right {
			t.Errorf("the sample's node %d: %d links", n, got)
		}
		links := func(x *api.Tree, v int) { x.Nodes[n].Links = v }
		wantEach(t, "Links of the node "+strconv.Itoa(n)+":", links, true, right)
		wantEach(t, "Links of the node "+strconv.Itoa(n)+":", links, false, right-1, right+1, 0, -right, 99, 1<<32+right, math.MaxInt, math.MinInt)
	}
	for dirs := range 5 {
		x := tree.New()
		for i := range dirs {
			add(&x, 1, "d"+strconv.Itoa(i), dir())
		}
		add(&x, 1, "f", file("x"))
		add(&x, 1, "l", link("x"))
		for links := range 9 {
			x.Nodes[1].Links = links
			wantCheck(t, strconv.Itoa(dirs)+" directories, Links "+strconv.Itoa(links), x, links == dirs+2)
		}
	}
}

// P12.2: names that are there, that are not, that may not be; in what is no directory.
func TestFind(t *testing.T) {
	x := sample()
	for n, want := range map[int]map[string]int{
		nRoot: {"a": nA, "g": nFile},
		nA:    {"b": nB, "f": nFile, "l": nLink, "m": nLink},
		nB:    {"c": nC, "e": nEmpty},
		nC:    {}, nFile: {}, nLink: {}, nEmpty: {}, nFree: {}, 0: {}, -1: {}, nC + 1: {}, 99: {}, math.MaxInt: {}, math.MinInt: {}, 1<<32 + 1: {},
	} {
		for _, s := range []string{"a", "b", "c", "d", "e", "f", "g", "l", "m", "z", "A", "", ".", "..", "/", "a/", "/a", "a/b", "aa", "a\x00", "\x00", "\x00a", "\xff", " a", strings.Repeat("a", 64), strings.Repeat("a", 65), strings.Repeat("a", 1<<20)} {
			if got := tree.Find(x, n, s); got != want[s] {
				t.Errorf("Find(%d, %.70q): %d, want %d", n, s, got, want[s])
			}
		}
	}
	for _, count := range []int{1, 2, 3, 10, 511} { // each name of a list, and what would stand between any two
		y := flat(count + 1)
		for i := range count {
			s := "f" + strconv.Itoa(i+1)
			if got := tree.Find(y, 1, s); got != i+2 {
				t.Errorf("Find %q among %d: %d, want %d", s, count, got, i+2)
			}
			for _, none := range []string{s + "\x01", s + "a", "e" + s, "g" + s} {
				if got := tree.Find(y, 1, none); got != 0 {
					t.Errorf("Find %q among %d: %d, want 0", none, count, got)
				}
			}
		}
	}
}

// P12.3: what is told of a node: a file, a link and a directory, empty ones too.
func TestStat(t *testing.T) {
	x := changed(func(x *api.Tree) {
		for n := range x.Nodes {
			if n != 0 && n != nFree {
				x.Nodes[n].User, x.Nodes[n].Group, x.Nodes[n].Time = 100+n, 200+n, 300+n
			}
		}
		x.Nodes[nEmpty].Mode, x.Nodes[nC].Mode = 0, 0o511
		x.Nodes[nLink].Target = "/a/b\n"
		x.Now = 7
	})
	for n, want := range map[int]api.Stat{
		nRoot:  {Kind: api.NoDir, Mode: 0o755, Links: 3, Size: 2},
		nA:     {Kind: api.NoDir, Mode: 0o755, Links: 3, Size: 4},
		nFile:  {Kind: api.NoFile, Mode: 0o644, Links: 2, Size: 5},
		nLink:  {Kind: api.NoLink, Mode: 0o777, Links: 2, Size: 5},
		nB:     {Kind: api.NoDir, Mode: 0o755, Links: 3, Size: 2},
		nEmpty: {Kind: api.NoFile, Mode: 0, Links: 1, Size: 0},
		nC:     {Kind: api.NoDir, Mode: 0o511, Links: 2, Size: 0},
	} {
		want.Node, want.User, want.Group, want.Time = n, 100+n, 200+n, 300+n
		if s, e := tree.Stat(x, n); s != want || e != api.OK {
			t.Errorf("Stat(%d): %+v %d, want %+v", n, s, e, want)
		}
	}
	for _, n := range append([]int{nFree, nC + 1, nC + 2, 513}, wrongNumbers...) {
		if s, e := tree.Stat(x, n); s != (api.Stat{}) || e != api.ErrArg {
			t.Errorf("Stat(%d): %+v %d, want ErrArg", n, s, e)
		}
	}
	for size := range 20 { // a link of so many bytes, a file of so many, a directory of so many names
		y := tree.New()
		add(&y, 1, "f", file(strings.Repeat("x", size*1000)))
		add(&y, 1, "l", link(strings.Repeat("x", size+1)))
		add(&y, 1, "d", dir())
		for i := range size {
			name(&y, 4, "n"+strconv.Itoa(i), 2)
		}
		for n, want := range map[int]int{2: size * 1000, 3: size + 1, 4: size, 1: 3} {
			if s, e := tree.Stat(y, n); s.Size != want || e != api.OK {
				t.Errorf("Stat(%d): %+v %d, want the Size %d", n, s, e, want)
			}
		}
	}
}

// P12.3: free numbers are not counted, nor what links have; a file with several names is counted once.
func TestSizes(t *testing.T) {
	for _, c := range []struct {
		x            api.Tree
		nodes, bytes int
	}{
		{tree.New(), 1, 0}, {small(), 3, 5}, {sample(), 7, 5}, {chain(32), 33, 0}, {flat(512), 512, 0}, {many(512, 512), 4, 1},
		{api.Tree{}, 0, 0}, {chain(33), 0, 0}, {flat(513), 0, 0}, {changed(func(x *api.Tree) { x.Now = -1 }), 0, 0}, {changed(func(x *api.Tree) { x.Nodes[nFile].Links = 1 }), 0, 0},
		{changed(func(x *api.Tree) { x.Nodes[nEmpty].Data = make([]byte, 1000) }), 7, 1005},
		{changed(func(x *api.Tree) { x.Nodes[nLink].Target = strings.Repeat("x", 1000) }), 7, 5},
	} {
		if n, b := tree.Sizes(c.x); n != c.nodes || b != c.bytes {
			t.Errorf("Sizes of %d nodes: %d %d, want %d %d", len(c.x.Nodes), n, b, c.nodes, c.bytes)
		}
	}
}

// P12.4: of the root, of directories, of what is none.
func TestDepthAndPath(t *testing.T) {
	x := sample()
	for n, want := range map[int]string{nRoot: "/", nA: "/a", nB: "/a/b", nC: "/a/b/c"} {
		p, e := tree.Path(x, n)
		if p != want || e != api.OK {
			t.Errorf("Path(%d): %q %d, want %q", n, p, e, want)
		}
		if d := tree.Depth(x, n); d != len(want)/2 {
			t.Errorf("Depth(%d): %d, want %d", n, d, len(want)/2)
		}
	}
	for _, n := range append([]int{nFile, nLink, nFree, nEmpty, nC + 1, nC + 2, 513}, wrongNumbers...) {
		if p, e := tree.Path(x, n); p != "" || e != api.ErrArg || tree.Depth(x, n) != 0 {
			t.Errorf("Path(%d): %q %d, Depth %d, want ErrArg and 0", n, p, e, tree.Depth(x, n))
		}
	}
	if p, e := tree.Path(tree.New(), 1); p != "/" || e != api.OK || tree.Depth(tree.New(), 1) != 0 {
		t.Errorf("Path of a root alone: %q %d", p, e)
	}
	y := tree.New() // the longest path that may be
	at, want := 1, ""
	for i := range api.MaxDeep {
		s := strings.Repeat(string(rune('a'+i%26)), api.MaxName)
		at = add(&y, at, s, dir())
		want += "/" + s
	}
	if p, e := tree.Path(y, at); p != want || e != api.OK || len(p) != 32*65 || tree.Depth(y, at) != 32 {
		t.Errorf("the longest path: %d bytes, %d", len(p), e)
	}
	z := tree.New() // bytes that mean nothing here
	a := add(&z, 1, "...", dir())
	b := add(&z, a, " \n\\", dir())
	c := add(&z, b, "\xff*", dir())
	if p, e := tree.Path(z, c); p != "/.../ \n\\/\xff*" || e != api.OK {
		t.Errorf("Path: %q %d", p, e)
	}
}

// randomTree: one that may be.
func randomTree(r *rand.Rand) api.Tree {
	x := tree.New()
	dirs, others := []int{1}, []int{}
	names := []string{"a", "b", "c", "ab", "...", "\xff", "A", "z z", strings.Repeat("n", 64)}
	for range r.Intn(12) {
		if r.Intn(6) == 0 {
			x.Nodes = append(x.Nodes, api.Node{})
			continue
		}
		in := dirs[r.Intn(len(dirs))]
		called := names[r.Intn(len(names))]
		if slices.ContainsFunc(x.Nodes[in].List, func(e api.Entry) bool { return e.Name == called }) {
			continue
		}
		switch kind := r.Intn(4); {
		case kind == 0 && len(others) > 0:
			name(&x, in, called, others[r.Intn(len(others))])
		case kind == 1:
			others = append(others, add(&x, in, called, file(names[r.Intn(len(names))])))
		case kind == 2:
			others = append(others, add(&x, in, called, link(names[r.Intn(len(names))])))
		default:
			dirs = append(dirs, add(&x, in, called, dir()))
		}
	}
	for len(x.Nodes) > 2 && x.Nodes[len(x.Nodes)-1].Kind == api.NoNone {
		x.Nodes = x.Nodes[:len(x.Nodes)-1]
	}
	return x
}

// spoil changes something of a tree, which may or may not be one that may be behind it.
func spoil(r *rand.Rand, x *api.Tree) {
	if len(x.Nodes) == 0 {
		return
	}
	numbers := []int{-1, 0, 0, 1, 1, 2, 2, 3, 3, 4, 5, 6, 7, 511, 512, 65535, 65536, 1<<40 - 1, 1 << 40, math.MaxInt, math.MinInt}
	texts := []string{"", "a", "b", "c", ".", "..", "a/b", "a\x00", strings.Repeat("n", 64), strings.Repeat("n", 65), strings.Repeat("n", 1025)}
	number, text := numbers[r.Intn(len(numbers))], texts[r.Intn(len(texts))]
	n := &x.Nodes[r.Intn(len(x.Nodes))]
	switch r.Intn(16) {
	case 0:
		n.Kind = api.NodeKind(r.Intn(5))
	case 1:
		n.Mode = number
	case 2:
		n.User = number
	case 3:
		n.Group = number
	case 4:
		n.Links = number
	case 5:
		n.Time = number
	case 6:
		n.Data = []byte(text)
	case 7:
		n.Target = text
	case 8:
		n.Parent = number
	case 9:
		n.List = append(n.List, api.Entry{Name: text, Node: number})
	case 10:
		n.Links += r.Intn(3) - 1
	case 11:
		x.Nodes = append(x.Nodes, api.Node{})
	case 12:
		x.Now = number
	case 13:
		*n = api.Node{}
	case 14:
		x.Nodes = x.Nodes[:len(x.Nodes)-1]
	case 15:
		if len(n.List) > 0 {
			n.List[r.Intn(len(n.List))] = api.Entry{Name: text, Node: number}
		}
	}
}

// P12.1 to P12.4, R1: trees of all kinds, and what becomes of them by some changes, held against the slow ways.
func TestAny(t *testing.T) {
	r := rand.New(rand.NewSource(12))
	may := 0
	for i := range 8000 {
		x := randomTree(r)
		if !tree.Check(x) {
			t.Fatalf("Check of a tree that may be: false: %+v", x)
		}
		sameAsSlow(t, "a random tree", x)
		for range 1 + i%3 {
			spoil(r, &x)
			sameAsSlow(t, "a random tree with a change", x)
			if tree.Check(x) {
				may++
			}
		}
	}
	if may < 500 {
		t.Errorf("just %d trees that were changed may be", may)
	}
}

// R1: trees made of any numbers and texts: every call ends, none panics.
func TestWild(t *testing.T) {
	r := rand.New(rand.NewSource(1212))
	for range 20000 {
		x := api.Tree{Nodes: make([]api.Node, r.Intn(6))}
		for range r.Intn(40) {
			spoil(r, &x)
		}
		sameAsSlow(t, "a wild tree", x)
	}
}

// R1: lists and texts far beyond the limits take no long time, in every node.
func TestFarBeyond(t *testing.T) {
	list := make([]api.Entry, 1<<20)
	for i := range list {
		list[i] = api.Entry{Name: "n" + strconv.Itoa(1<<20+i), Node: 2}
	}
	data, text := make([]byte, 1<<26), strings.Repeat("x", 1<<26)
	for i, n := range []api.Node{{Kind: api.NoDir, Links: 2, Parent: 1, List: list}, {Kind: api.NoFile, Links: 1, Data: data}, {Kind: api.NoLink, Mode: 511, Links: 1, Target: text}, {Kind: api.NoDir, Links: 3, Parent: 1, List: []api.Entry{{Name: text, Node: 2}}}} {
		x := tree.New()
		for range 511 {
			x.Nodes = append(x.Nodes, n)
		}
		for k := range x.Nodes {
			if tree.Check(x) || tree.Find(x, k, text) != 0 || tree.Depth(x, k) != 0 {
				t.Fatalf("far beyond the limits, %d, %d: it may be", i, k)
			}
		}
	}
	for i := range 8 { // each of many directories lists the next ones: so many ways lead down that none could go them all
		x := tree.New()
		for n := 1; n <= 60; n++ {
			if n > 1 {
				x.Nodes = append(x.Nodes, api.Node{Kind: api.NoDir, Parent: n - 1})
			}
			x.Nodes[n].Links = 4
			x.Nodes[n].List = []api.Entry{{Name: "a", Node: 2 + (n+i/2)%59}, {Name: "b", Node: 2 + (n+i%2)%59}}
		}
		wantCheck(t, "directories that list one another", x, false)
	}
}

// P12.5: a directory's path leads to it, name by name, by as many names as it is deep.
func TestPathLeads(t *testing.T) {
	r := rand.New(rand.NewSource(125))
	trees := []api.Tree{tree.New(), small(), sample(), chain(api.MaxDeep), many(3, 4, 5)}
	for range 2000 {
		trees = append(trees, randomTree(r))
	}
	for _, x := range trees {
		paths := map[string]int{}
		for n, of := range x.Nodes {
			if of.Kind != api.NoDir {
				continue
			}
			p, e := tree.Path(x, n)
			if e != api.OK || p == "" || p[0] != '/' || paths[p] != 0 {
				t.Fatalf("Path(%d): %q %d, of %+v", n, p, e, x)
			}
			paths[p] = n
			at, steps := 1, 0
			if p != "/" {
				for _, s := range strings.Split(p[1:], "/") {
					at = tree.Find(x, at, s)
					steps++
				}
			}
			if at != n || steps != tree.Depth(x, n) {
				t.Fatalf("Path(%d): %q leads to %d by %d steps; Depth %d", n, p, at, steps, tree.Depth(x, n))
			}
		}
	}
}

// deepCopy: of a tree with its spare room.
func deepCopy(x api.Tree) api.Tree {
	out := api.Tree{Now: x.Now, Nodes: slices.Clone(x.Nodes[:cap(x.Nodes)])}
	for i, n := range out.Nodes {
		out.Nodes[i].Data = slices.Clone(n.Data[:cap(n.Data)])
		out.Nodes[i].List = slices.Clone(n.List[:cap(n.List)])
	}
	return out
}

// askAll asks everything of a tree.
func askAll(x api.Tree) {
	tree.Check(x)
	tree.Sizes(x)
	for n := -1; n <= len(x.Nodes); n++ {
		tree.Stat(x, n)
		tree.Depth(x, n)
		tree.Path(x, n)
		for _, s := range []string{"a", "f", "z", ""} {
			tree.Find(x, n, s)
		}
	}
}

// R4: what is handed in is not changed, its spare room neither, whether the tree may be or not.
func TestNotChanged(t *testing.T) {
	r := rand.New(rand.NewSource(4))
	for i := range 3000 {
		x := sample()
		if i > 0 {
			x = randomTree(r)
			spoil(r, &x)
		}
		x.Nodes = append(x.Nodes, api.Node{Mode: 7, Data: []byte("spare")}, api.Node{Links: 3})[:len(x.Nodes)]
		for k := range x.Nodes {
			n := &x.Nodes[k]
			n.Data = append(slices.Clone(n.Data), "spare"...)[:len(n.Data)]
			n.List = append(slices.Clone(n.List), api.Entry{Name: "spare", Node: 9}, api.Entry{Name: "a", Node: 1})[:len(n.List)]
		}
		was := deepCopy(x)
		askAll(x)
		if now := deepCopy(x); !reflect.DeepEqual(now, was) {
			t.Fatalf("changed: %+v, was %+v", now, was)
		}
	}
}

// R4: a path shares no memory with the names. (They are made of bytes that can be changed behind the call.)
func TestPathIsNew(t *testing.T) {
	called := []byte("name")
	s := unsafe.String(&called[0], len(called))
	x := tree.New()
	a := add(&x, 1, s, dir())
	b := add(&x, a, s, dir())
	one, _ := tree.Path(x, a)
	two, _ := tree.Path(x, b)
	copy(called, "####")
	if one != "/name" || two != "/name/name" {
		t.Errorf("Path: %q, %q, behind a change of the names", one, two)
	}
}

// R5: what is asked twice is answered alike, whatever was asked between; a tree that is changed between is asked anew.
func TestAgain(t *testing.T) {
	x := sample()
	for range 3 {
		wantCheck(t, "the sample", x, true)
		x.Nodes[nFile].Links++
		wantCheck(t, "the sample with a link more", x, false)
		x.Nodes[nFile].Links--
		wantCheck(t, "no nodes", api.Tree{}, false)
		wantCheck(t, "T", small(), true)
		x.Nodes[nRoot].List[0].Name = "aa"
		if p, e := tree.Path(x, nB); p != "/aa/b" || e != api.OK || tree.Find(x, 1, "a") != 0 || tree.Find(x, 1, "aa") != nA {
			t.Errorf("Path: %q %d", p, e)
		}
		x.Nodes[nRoot].List[0].Name = "a"
	}
}
