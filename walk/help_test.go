package walk_test

import (
	"reflect"
	"slices"
	"strconv"
	"strings"
	"testing"

	"toolchest/api"
	"toolchest/tree"
	"toolchest/walk"
)

func fileOf(data string) api.Node {
	return api.Node{Kind: api.NoFile, Mode: 0o644, Data: []byte(data)}
}

func linkTo(target string) api.Node {
	return api.Node{Kind: api.NoLink, Mode: 0o777, Target: target}
}

func dirOf(mode int) api.Node { return api.Node{Kind: api.NoDir, Mode: mode} }

func ownedBy(user, group int, n api.Node) api.Node {
	n.User, n.Group = user, group
	return n
}

// name lists a node in a directory, at its place, and lets Links and Parent say so.
func name(t *api.Tree, in int, called string, node int) {
	d, n := &t.Nodes[in], &t.Nodes[node]
	at := 0
	for at < len(d.List) && d.List[at].Name < called {
		at++
	}
	d.List = slices.Insert(slices.Clone(d.List), at, api.Entry{Name: called, Node: node})
	if n.Kind == api.NoDir {
		d.Links++
		n.Links, n.Parent = 2, in
	} else {
		n.Links++
	}
}

// add: a new node in a directory; its number.
func add(t *api.Tree, in int, called string, n api.Node) int {
	t.Nodes = append(t.Nodes, n)
	name(t, in, called, len(t.Nodes)-1)
	return len(t.Nodes) - 1
}

// small: T of the chapter's examples.
func small() api.Tree {
	t := tree.New()
	a := add(&t, 1, "a", dirOf(0o755))
	add(&t, a, "b", fileOf("hello"))
	return t
}

// Numbers of the sample's nodes.
const (
	nRoot = 1 + iota
	nD    // d: a directory
	nE    // d/e: a directory, empty
	nG    // d/g: a file of 5 bytes, d/h and f too
	nS    // d/s: a directory
	nX    // d/s/x: a file of 2 bytes
	nL    // l: a link to d
	nM    // m: a link to what is not there; d/m too
	nLoop // z: a link to itself
	nFree
	nU // u: a directory of the user 5, group 7, that only its user may go into
	nV // u/v: a file of 3 bytes
	nW // u/w: a directory that all may go into
	nY // u/w/y: a file, empty
)

func sample() api.Tree {
	t := tree.New()
	t.Now = 9
	add(&t, nRoot, "d", dirOf(0o755))
	add(&t, nD, "e", dirOf(0o755))
	add(&t, nD, "h", fileOf("there"))
	add(&t, nD, "s", dirOf(0o755))
	add(&t, nS, "x", fileOf("xx"))
	add(&t, nRoot, "l", linkTo("d"))
	add(&t, nRoot, "m", linkTo("nothing"))
	add(&t, nRoot, "z", linkTo("z"))
	t.Nodes = append(t.Nodes, api.Node{})
	add(&t, nRoot, "u", ownedBy(5, 7, dirOf(0o700)))
	add(&t, nU, "v", fileOf("vvv"))
	add(&t, nU, "w", dirOf(0o755))
	add(&t, nW, "y", fileOf(""))
	name(&t, nD, "g", nG)
	name(&t, nRoot, "f", nG)
	name(&t, nD, "m", nM)
	return t
}

// Who acts: the user 0, the one who has u of the sample, one of u's group, one of neither.
var (
	master = api.Env{Mask: 0o022, Dir: 1}
	owner  = api.Env{User: 5, Group: 7, Mask: 0o022, Dir: 1}
	friend = api.Env{User: 6, Group: 7, Dir: 1}
	guest  = api.Env{User: 6, Group: 8, Dir: 1}
)

func in(e api.Env, dir int) api.Env {
	e.Dir = dir
	return e
}

// told: steps as a text: path, node and depth of each, with a ^ behind, if it has After.
func told(l []api.Step) string {
	var out []string
	for _, s := range l {
		x := s.Path + " " + strconv.Itoa(s.Node) + " " + strconv.Itoa(s.Depth)
		if s.After {
			x += "^"
		}
		out = append(out, x)
	}
	return strings.Join(out, ", ")
}

// wantWalk: the steps, as told tells them, and the paths that are shut, with spaces between; held against the slow reading, too.
func wantWalk(t *testing.T, x api.Tree, e api.Env, path string, deepest int, want, wantShut string) {
	t.Helper()
	l, shut, err := both(t, x, e, path, deepest)
	if told(l) != want || strings.Join(shut, " ") != wantShut || err != api.OK {
		t.Errorf("Walk(%q, %d) by %+v:\n%s; %q; %d\nwant\n%s; %q", path, deepest, e, told(l), shut, err, want, wantShut)
	}
}

func wantErr(t *testing.T, x api.Tree, e api.Env, path string, deepest int, want api.Errno) {
	t.Helper()
	if _, _, err := both(t, x, e, path, deepest); err != want {
		t.Errorf("Walk(%q, %d) by %+v: %d, want %d", path, deepest, e, err, want)
	}
}

// both: a walk, held against the slow reading.
func both(t *testing.T, x api.Tree, e api.Env, path string, deepest int) ([]api.Step, []string, api.Errno) {
	t.Helper()
	l, shut, err := walk.Walk(x, e, path, deepest)
	slow, slowShut, slowErr := slowWalk(x, e, path, deepest)
	if !slices.Equal(l, slow) || !slices.Equal(shut, slowShut) || err != slowErr {
		t.Fatalf("Walk(%.80q, %d) by %+v:\n%s; %q; %d\nwant, by the slow reading,\n%s; %q; %d", path, deepest, e, told(l), shut, err, told(slow), slowShut, slowErr)
	}
	return l, shut, err
}

// sizes: held against the slow reading.
func sizes(t *testing.T, x api.Tree, l []api.Step) []int {
	t.Helper()
	got, slow := walk.Sizes(x, l), slowSizes(x, l)
	if !slices.Equal(got, slow) {
		t.Fatalf("Sizes of %s:\n%v\nwant, by the slow reading,\n%v", told(l), got, slow)
	}
	return got
}

func wantSizes(t *testing.T, what string, x api.Tree, l []api.Step, want ...int) {
	t.Helper()
	if got := sizes(t, x, l); !slices.Equal(got, want) {
		t.Errorf("Sizes, %s, of %s: %v, want %v", what, told(l), got, want)
	}
}

// stepsOf: a walk that is not refused.
func stepsOf(t *testing.T, x api.Tree, e api.Env, path string, deepest int) []api.Step {
	t.Helper()
	l, _, err := both(t, x, e, path, deepest)
	if err != api.OK {
		t.Fatalf("Walk(%q, %d): %d", path, deepest, err)
	}
	return l
}

// whole: a tree with what lies in its spare room.
func whole(t api.Tree) api.Tree {
	out := api.Tree{Now: t.Now, Nodes: slices.Clone(t.Nodes[:cap(t.Nodes)])}
	for i, n := range out.Nodes {
		out.Nodes[i].Data = slices.Clone(n.Data[:cap(n.Data)])
		out.Nodes[i].List = slices.Clone(n.List[:cap(n.List)])
	}
	return out
}

// roomy: with something in the spare room of all lists.
func roomy(t api.Tree) api.Tree {
	out := api.Tree{Now: t.Now, Nodes: append(slices.Clone(t.Nodes), api.Node{Mode: 7, Data: []byte("spare")})[:len(t.Nodes)]}
	for i, n := range out.Nodes {
		out.Nodes[i].Data = append(slices.Clone(n.Data), "spare"...)[:len(n.Data)]
		out.Nodes[i].List = append(slices.Clone(n.List), api.Entry{Name: "spare", Node: 1})[:len(n.List)]
	}
	return out
}

func sameTree(a, b api.Tree) bool { return reflect.DeepEqual(a, b) }
