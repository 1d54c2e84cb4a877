package paths_test

import (
	"math"
	"math/rand"
	"reflect"
	"slices"
	"strconv"
	"strings"
	"testing"
	"time"

	"toolchest/api"
	"toolchest/paths"
	"toolchest/perms"
	"toolchest/tree"
)

func file(data string) api.Node { return api.Node{Kind: api.NoFile, Mode: 0o644, Data: []byte(data)} }

func link(target string) api.Node { return api.Node{Kind: api.NoLink, Mode: 0o777, Target: target} }

func dir(mode int) api.Node { return api.Node{Kind: api.NoDir, Mode: mode} }

// name lists a node in a directory, at its place, and lets Links and Parent say so.
func name(t *api.Tree, in int, name string, node int) {
	d, n := &t.Nodes[in], &t.Nodes[node]
	at := 0
	for at < len(d.List) && d.List[at].Name < name {
		at++
	}
	d.List = slices.Insert(slices.Clone(d.List), at, api.Entry{Name: name, Node: node})
	if n.Kind == api.NoDir {
		d.Links++
		n.Links, n.Parent = 2, in
	} else {
		n.Links++
	}
}

// add: a new node in a directory; its number.
func add(t *api.Tree, in int, called string, n api.Node) int {
	t.Nodes = append(t.Nodes, n)
	name(t, in, called, len(t.Nodes)-1)
	return len(t.Nodes) - 1
}

// Numbers of sample's first nodes.
const (
	nRoot = 1 + iota
	nA    // directory a
	nB    // file b in a
	nC    // directory c in a
	nD    // file d in c
	nF    // file f in the root
	nLong // directory in the root, with the longest name
	nLink // the first link
)

// Names as long as may be, and one byte longer.
var (
	longest = strings.Repeat("n", 64)
	tooLong = strings.Repeat("n", 65)
)

// sample: the chapter's T with more in it. Its links are in the root, and by the same names in c.
func sample() api.Tree {
	t := tree.New()
	add(&t, nRoot, "a", dir(0o755))
	add(&t, nA, "b", file("hello"))
	add(&t, nA, "c", dir(0o755))
	add(&t, nC, "d", file(""))
	add(&t, nRoot, "f", file("x"))
	add(&t, nRoot, longest, dir(0o755))
	for _, l := range links {
		name(&t, nC, l.name, add(&t, nRoot, l.name, link(l.target)))
	}
	return t
}

// links: what each of the sample's links says; an s behind its name: with a slash at its end; an r ahead: from the root.
var links = []struct{ name, target string }{
	{"l", "a/b"}, {"m", "m"},
	{"dir", "a"}, {"dirs", "a/"}, {"rdir", "/a"}, {"rdirs", "//a//"}, {"deep", "a/c"}, {"deeps", "a/c/"},
	{"file", "f"}, {"files", "f/"}, {"rfile", "/f"}, {"rfiles", "/f//"}, {"inners", "a/b/"}, {"infile", "f/x"},
	{"none", "x"}, {"nones", "x/"}, {"rnone", "/a/x"}, {"none2", "x/y"},
	{"ms", "ms/"}, {"rm", "/rm"}, {"ping", "pong"}, {"pong", "ping"},
	{"root", "/"}, {"roots", "///"}, {"dot", "."}, {"dotss", "./"}, {"up", ".."}, {"ups", "../"}, {"rup", "/.."}, {"back", "a/.."}, {"backs", "a/../"}, {"stay", "a/."},
	{"todeep", "deep"}, {"todirs", "dirs"}, {"tolink", "a/c/dir"}, {"long", tooLong}, {"long2", tooLong + "/x"}, {"okay", longest},
}

// nodeOf: the number of a link of the sample.
func nodeOf(called string) int {
	for i, l := range links {
		if l.name == called {
			return nLink + i
		}
	}
	return 0
}

// at: where a path leads, in a directory by a name; at a directory itself.
func at(dir int, name string, node int) paths.Place {
	return paths.Place{Dir: dir, Name: name, Node: node}
}

func itself(dir int) paths.Place { return at(dir, "", dir) }

// dirs: with Dirs.
func dirs(p paths.Place) paths.Place {
	p.Dirs = true
	return p
}

// slowFind goes a path as a text: where a part is a link, what it says is written in its stead.
func slowFind(t api.Tree, e api.Env, path string, follow bool) (paths.Place, api.Errno) {
	if !tree.Check(t) || !perms.Check(t, e) {
		return paths.Place{}, api.ErrArg
	}
	if len(path) == 0 {
		return paths.Place{}, api.ErrNone
	}
	if len(path) >= 1025 || strings.Contains(path, "\x00") {
		return paths.Place{}, api.ErrName
	}
	return slowLead(t, e, e.Dir, path, follow, 0)
}

func slowLead(t api.Tree, e api.Env, at int, path string, follow bool, hops int) (paths.Place, api.Errno) {
	if hops == 17 {
		return paths.Place{}, api.ErrLoop
	}
	mustBeDir := path[len(path)-1] == '/'
	if path[0] == '/' {
		at = 1
	}
	for {
		for path != "" && path[0] == '/' {
			path = path[1:]
		}
		if path == "" {
			return paths.Place{Dir: at, Node: at, Dirs: mustBeDir}, api.OK
		}
		part, rest := path, ""
		if i := strings.Index(path, "/"); i >= 0 {
			part, rest = path[:i], path[i:]
		}
		if !perms.May(t.Nodes[at], e, 1) {
			return paths.Place{}, api.ErrPerm
		}
		if len(part) >= 65 {
			return paths.Place{}, api.ErrName
		}
		last := strings.Trim(rest, "/") == ""
		switch part {
		case ".":
			path = rest
			continue
		case "..":
			at, path = t.Nodes[at].Parent, rest
			continue
		}
		n := 0
		for _, entry := range t.Nodes[at].List {
			if entry.Name == part {
				n = entry.Node
			}
		}
		kind := t.Nodes[n].Kind
		if kind == api.NoLink && (!last || rest != "" || follow) {
			return slowLead(t, e, at, t.Nodes[n].Target+rest, follow, hops+1)
		}
		if kind == api.NoFile && rest != "" {
			return paths.Place{}, api.ErrNotDir
		}
		if last {
			return paths.Place{Dir: at, Name: part, Node: n, Dirs: mustBeDir}, api.OK
		}
		if n == 0 {
			return paths.Place{}, api.ErrNone
		}
		at, path = n, rest
	}
}

func wantFind(t *testing.T, x api.Tree, e api.Env, path string, follow bool, want paths.Place, err api.Errno) {
	t.Helper()
	if p, e := paths.Find(x, e, path, follow); p != want || e != err {
		t.Errorf("Find(%.80q, %v): %+v %d, want %+v %d", path, follow, p, e, want, err)
	}
	if p, e := slowFind(x, e, path, follow); p != want || e != err {
		t.Errorf("slowFind(%.80q, %v): %+v %d, want %+v %d", path, follow, p, e, want, err)
	}
}

// wantBoth: a link at its end followed or not.
func wantBoth(t *testing.T, x api.Tree, e api.Env, path string, want paths.Place, err api.Errno) {
	t.Helper()
	wantFind(t, x, e, path, false, want, err)
	wantFind(t, x, e, path, true, want, err)
}

// wantPlace, wantErr: in the sample, for the user 0, from the root.
func wantPlace(t *testing.T, path string, want paths.Place) {
	t.Helper()
	wantBoth(t, sample(), api.Env{Dir: nRoot}, path, want, api.OK)
}

func wantErr(t *testing.T, path string, want api.Errno) {
	t.Helper()
	wantBoth(t, sample(), api.Env{Dir: nRoot}, path, paths.Place{}, want)
}

// sameAsSlow: a path in a tree, followed or not.
func sameAsSlow(t *testing.T, x api.Tree, e api.Env, path string) {
	t.Helper()
	for _, follow := range []bool{false, true} {
		p, err := paths.Find(x, e, path, follow)
		if want, wantErr := slowFind(x, e, path, follow); p != want || err != wantErr {
			t.Fatalf("Find(%+v, %+v, %.200q, %v): %+v %d, want %+v %d", x, e, path, follow, p, err, want, wantErr)
		}
	}
}

// P14.1, P14.2: the chapter's examples.
func TestExamples(t *testing.T) {
	x := tree.New()
	add(&x, 1, "a", dir(0o755))
	add(&x, 2, "b", file("hello"))
	add(&x, 1, "l", link("a/b"))
	add(&x, 1, "m", link("m"))
	e := api.Env{Dir: 1}
	wantBoth(t, x, e, "a//./b", at(2, "b", 3), api.OK)
	wantBoth(t, x, e, "/a/x", at(2, "x", 0), api.OK)
	wantBoth(t, x, e, "x/y", paths.Place{}, api.ErrNone)
	wantFind(t, x, e, "l", true, at(2, "b", 3), api.OK)
	wantFind(t, x, e, "l", false, at(1, "l", 4), api.OK)
	wantBoth(t, x, e, "m/x", paths.Place{}, api.ErrLoop)
	wantBoth(t, x, e, "a/b/", paths.Place{}, api.ErrNotDir)
	wantBoth(t, x, e, "a/..", itself(1), api.OK)
	wantBase(t, "/a/b//", "b")
	wantDir(t, "/a/b//", "/a")
	wantDir(t, "a", ".")
	wantDir(t, "/a", "/")
	wantJoin(t, "/", "a", "/a")
}

// P14.1: a tree that may not be, and nobody such: ErrArg, ahead of what is wrong with the path.
func TestNobody(t *testing.T) {
	badPaths := []string{"", "a", "/", "a/b", "x/y", "m/x", "a\x00", tooLong, strings.Repeat("a/", 513)}
	for i, spoil := range []func(x *api.Tree){
		func(x *api.Tree) { x.Nodes = nil },
		func(x *api.Tree) { x.Nodes = x.Nodes[:1] },
		func(x *api.Tree) { x.Nodes = append(x.Nodes, api.Node{}) },
		func(x *api.Tree) { x.Now = -1 },
		func(x *api.Tree) { x.Nodes[0].Links = 1 },
		func(x *api.Tree) { x.Nodes[nRoot].Links++ },
		func(x *api.Tree) { x.Nodes[nRoot].Kind = api.NoFile },
		func(x *api.Tree) { x.Nodes[nA].Parent = nC },
		func(x *api.Tree) { x.Nodes[nA].Parent = 1 << 40 },
		func(x *api.Tree) { x.Nodes[nA].List[0].Node = 1 << 40 },
		func(x *api.Tree) { x.Nodes[nA].List[0].Node = -1 },
		func(x *api.Tree) { x.Nodes[nA].List[0].Name = "b/" },
		func(x *api.Tree) { slices.Reverse(x.Nodes[nA].List) },
		func(x *api.Tree) { x.Nodes[nC].Mode = 512 },
		func(x *api.Tree) { x.Nodes[nodeOf("dir")].Target = "" },
		func(x *api.Tree) { x.Nodes[nodeOf("dir")].Target = "a\x00" },
		func(x *api.Tree) { x.Nodes[nodeOf("dir")].Target = strings.Repeat("a", 1025) },
		func(x *api.Tree) { x.Nodes[nB] = api.Node{} },
	} {
		x := sample()
		spoil(&x)
		if tree.Check(x) {
			t.Errorf("the change %d leaves a tree that may be", i)
		}
		for _, path := range badPaths {
			wantBoth(t, x, api.Env{Dir: nRoot}, path, paths.Place{}, api.ErrArg)
			wantBoth(t, x, api.Env{User: 5, Dir: nA}, path, paths.Place{}, api.ErrArg)
		}
	}
	for _, e := range []api.Env{
		{}, {Dir: -1}, {Dir: nB}, {Dir: nF}, {Dir: nLink}, {Dir: 1000}, {Dir: math.MaxInt}, {Dir: math.MinInt}, {Dir: 1 << 32}, {Dir: 1<<32 + 1},
		{Dir: 1, User: -1}, {Dir: 1, User: 65536}, {Dir: 1, Group: -1}, {Dir: 1, Group: 65536}, {Dir: 1, Mask: -1}, {Dir: 1, Mask: 512},
	} {
		for _, path := range badPaths {
			wantBoth(t, sample(), e, path, paths.Place{}, api.ErrArg)
		}
	}
	wantBoth(t, sample(), api.Env{Dir: nRoot, User: 65535, Group: 65535, Mask: 511}, "a", at(nRoot, "a", nA), api.OK)
}

// P14.1: the empty path; paths of MaxPath bytes and one more, whatever they are made of; a byte 0 anywhere. All of it ahead of what is on the way.
func TestWhole(t *testing.T) {
	wantErr(t, "", api.ErrNone)
	wantBoth(t, sample(), api.Env{Dir: nC, User: 5}, "", paths.Place{}, api.ErrNone)
	many := func(s string, long int) string { return strings.Repeat(s, long)[:long] }
	wantPlace(t, many("/", 1024), dirs(itself(nRoot)))
	wantErr(t, many("/", 1025), api.ErrName)
	wantPlace(t, many("./", 1023), itself(nRoot))
	wantPlace(t, many("./", 1024), dirs(itself(nRoot)))
	wantErr(t, many("./", 1025), api.ErrName)
	wantPlace(t, many("a/../", 1021), at(nRoot, "a", nA))
	wantPlace(t, many("/", 1023)+"a", at(nRoot, "a", nA))
	wantErr(t, many("/", 1024)+"a", api.ErrName)
	wantPlace(t, "a"+many("/", 1023), dirs(at(nRoot, "a", nA)))
	wantErr(t, "a"+many("/", 1024), api.ErrName)
	wantErr(t, many("x/", 1024), api.ErrNone)
	wantErr(t, many("x/", 1025), api.ErrName)
	wantErr(t, "f"+many("/", 1024), api.ErrName)
	wantErr(t, "m"+many("/", 1024), api.ErrName)
	wantErr(t, many("x/", 1<<20), api.ErrName)
	for _, s := range []string{"\x00", "a\x00", "\x00a", "a/\x00", "/\x00", "a/\x00b", "x/y\x00", "f/x\x00", "m/\x00", "\x00/a", "a\x00/b", "\x00\x00", many("./", 1023) + "\x00", many("./", 1024) + "\x00", tooLong + "\x00"} {
		wantErr(t, s, api.ErrName)
	}
	locked := sample()
	locked.Nodes[nRoot].Mode = 0
	wantBoth(t, locked, api.Env{User: 5, Dir: nRoot}, "a\x00", paths.Place{}, api.ErrName)
	wantBoth(t, locked, api.Env{User: 5, Dir: nRoot}, "a"+many("/", 1024), paths.Place{}, api.ErrName)
	wantBoth(t, locked, api.Env{User: 5, Dir: nRoot}, "", paths.Place{}, api.ErrNone)
	wantBoth(t, locked, api.Env{User: 5, Dir: nRoot}, "a", paths.Place{}, api.ErrPerm)
}

// P14.1: slashes ahead, at the end, side by side, alone; paths that begin at the root and those that begin at Dir.
func TestSlashes(t *testing.T) {
	for _, s := range []string{"/", "//", "///", "////////"} {
		wantPlace(t, s, dirs(itself(nRoot)))
		for _, d := range []int{nA, nC, nLong} {
			wantBoth(t, sample(), api.Env{Dir: d}, s, dirs(itself(nRoot)), api.OK)
		}
	}
	for _, s := range []string{"a/b", "a//b", "a///b", "/a/b", "//a//b", "./a/./b", "a/c/../b", "/../a/b", ".//a/././/b"} {
		wantPlace(t, s, at(nA, "b", nB))
	}
	for _, s := range []string{"a", "/a", "//a", "./a", "../a", "/a/../a", "a/c/../../a"} {
		wantPlace(t, s, at(nRoot, "a", nA))
		wantPlace(t, s+"/", dirs(at(nRoot, "a", nA)))
		wantPlace(t, s+"///", dirs(at(nRoot, "a", nA)))
	}
	for _, e := range []api.Env{{Dir: nA}, {Dir: nA, User: 5, Group: 7, Mask: 18}} {
		wantBoth(t, sample(), e, "b", at(nA, "b", nB), api.OK)
		wantBoth(t, sample(), e, "c/d", at(nC, "d", nD), api.OK)
		wantBoth(t, sample(), e, "a", at(nA, "a", 0), api.OK)
		wantBoth(t, sample(), e, "/a", at(nRoot, "a", nA), api.OK)
		wantBoth(t, sample(), e, "/b", at(nRoot, "b", 0), api.OK)
		wantBoth(t, sample(), e, "../f", at(nRoot, "f", nF), api.OK)
		wantBoth(t, sample(), e, "f/x", paths.Place{}, api.ErrNone)
	}
}

// P14.1: parts of MaxName bytes and one more, in front and last, there or not.
func TestLongParts(t *testing.T) {
	wantPlace(t, longest, at(nRoot, longest, nLong))
	wantPlace(t, longest+"/", dirs(at(nRoot, longest, nLong)))
	wantPlace(t, longest+"/x", at(nLong, "x", 0))
	wantPlace(t, longest+"/"+longest, at(nLong, longest, 0))
	wantPlace(t, "a/"+longest, at(nA, longest, 0))
	wantErr(t, "a/"+longest+"/x", api.ErrNone)
	for _, s := range []string{tooLong, "/" + tooLong, tooLong + "/", tooLong + "/x", "a/" + tooLong, "a/" + tooLong + "/x", "./" + tooLong, tooLong + "/..", strings.Repeat("n", 1024), strings.Repeat(".", 65), strings.Repeat(".", 65) + "/a"} {
		wantErr(t, s, api.ErrName)
	}
	wantPlace(t, strings.Repeat(".", 64), at(nRoot, strings.Repeat(".", 64), 0))
	wantPlace(t, "...", at(nRoot, "...", 0))
	wantErr(t, ".../x", api.ErrNone)
}

// P14.1: `.` and `..`, in the root too, in front and last: Dir and Node are that directory, and there is no Name.
func TestDots(t *testing.T) {
	for s, d := range map[string]int{
		".": nRoot, "..": nRoot, "/.": nRoot, "/..": nRoot, "./.": nRoot, "../..": nRoot, "../.": nRoot, "/../..": nRoot, "a/..": nRoot, "a/../..": nRoot, "a/c/../..": nRoot, "./a/..": nRoot,
		"a/.": nA, "a/./.": nA, "a/c/..": nA, "../a/.": nA, "a/c/./..": nA, "a/../a/.": nA, "a/c/.": nC, "a/c/../c/.": nC, longest + "/.": nLong, longest + "/..": nRoot,
		"dir/.": nA, "dir/..": nRoot, "deep/..": nA, "a/c/root/..": nRoot, "a/c/root/.": nRoot, "a/c/dot/.": nC, "a/c/up/.": nA, "a/c/up/..": nRoot,
	} {
		wantPlace(t, s, itself(d))
		wantPlace(t, s+"/", dirs(itself(d)))
		wantPlace(t, s+"//", dirs(itself(d)))
		wantPlace(t, s+"/x", at(d, "x", 0))
		wantErr(t, s+"/x/y", api.ErrNone)
	}
	for s, d := range map[string]int{".": nC, "..": nA, "./..": nA, "../..": nRoot, "../../..": nRoot, "../.": nA, "../c/.": nC, "../../a/.": nA} {
		wantBoth(t, sample(), api.Env{Dir: nC}, s, itself(d), api.OK)
	}
	for _, s := range []string{"x/.", "x/..", "x/./", "x/../a", "a/x/.", "a/x/.."} {
		wantErr(t, s, api.ErrNone)
	}
	for _, s := range []string{"f/.", "f/..", "f/./", "f/../a", "a/b/.", "a/b/..", "l/.", "file/..", "rfile/."} {
		wantErr(t, s, api.ErrNotDir)
	}
}

// P14.1: parts that are not there; files in front, and last with a slash behind.
func TestNotThere(t *testing.T) {
	for s, want := range map[string]paths.Place{"x": at(nRoot, "x", 0), "/x": at(nRoot, "x", 0), "x/": dirs(at(nRoot, "x", 0)), "x//": dirs(at(nRoot, "x", 0)), "a/x": at(nA, "x", 0), "a/x/": dirs(at(nA, "x", 0)), "a/c/b": at(nC, "b", 0), "A": at(nRoot, "A", 0), "aa": at(nRoot, "aa", 0), "\xff": at(nRoot, "\xff", 0), " a": at(nRoot, " a", 0), "a\n": at(nRoot, "a\n", 0), "*": at(nRoot, "*", 0)} {
		wantPlace(t, s, want)
	}
	for _, s := range []string{"x/y", "/x/y", "x/y/", "x//y", "a/x/y", "x/a", "x/f/y", "x/l", "\xff/x", "A/b"} {
		wantErr(t, s, api.ErrNone)
	}
	wantPlace(t, "f", at(nRoot, "f", nF))
	wantPlace(t, "a/c/d", at(nC, "d", nD))
	for _, s := range []string{"f/", "f//", "/f/", "a/b/", "a/c/d/", "f/x", "f/x/y", "f/f", "a/b/c", "a/b//c/"} {
		wantErr(t, s, api.ErrNotDir)
	}
}

// P14.1: links in front, to all that there is.
func TestLinksInFront(t *testing.T) {
	for s, want := range map[string]paths.Place{
		"dir/b": at(nA, "b", nB), "dirs/b": at(nA, "b", nB), "rdir/b": at(nA, "b", nB), "rdirs/b": at(nA, "b", nB), "dir//b": at(nA, "b", nB), "dir/x": at(nA, "x", 0), "dirs/x": at(nA, "x", 0), "rdirs/x/": dirs(at(nA, "x", 0)),
		"dir/c/d": at(nC, "d", nD), "deep/d": at(nC, "d", nD), "deeps/d": at(nC, "d", nD), "dir/c/": dirs(at(nA, "c", nC)), "todeep/d": at(nC, "d", nD), "todirs/b": at(nA, "b", nB),
		"root/a": at(nRoot, "a", nA), "roots/a": at(nRoot, "a", nA), "root/root/roots/a": at(nRoot, "a", nA), "dot/a": at(nRoot, "a", nA), "up/a": at(nRoot, "a", nA), "rup/a": at(nRoot, "a", nA), "back/a": at(nRoot, "a", nA), "backs/a": at(nRoot, "a", nA), "stay/b": at(nA, "b", nB), "okay/x": at(nLong, "x", 0),
		// the same links, in c
		"a/c/root/a": at(nRoot, "a", nA), "a/c/dot/d": at(nC, "d", nD), "a/c/up/b": at(nA, "b", nB), "a/c/ups/b": at(nA, "b", nB), "a/c/rdir/b": at(nA, "b", nB), "a/c/rup/f": at(nRoot, "f", nF), "a/c/roots/f": at(nRoot, "f", nF), "a/c/roots/a/c/up/c/d": at(nC, "d", nD), "deep/up/b": at(nA, "b", nB),
	} {
		wantPlace(t, s, want)
	}
	for _, s := range []string{"none/x", "nones/x", "rnone/x", "none2/x", "dir/none/x", "a/c/dir/x", "a/c/deep/d", "a/c/file/x", "tolink/x", "a/c/none/x", "a/c/todirs/b"} {
		wantErr(t, s, api.ErrNone)
	}
	for _, s := range []string{"l/x", "file/x", "files/x", "rfile/x", "rfiles/x", "inners/x", "infile/x", "a/c/rfile/x", "file/.", "deep/d/x"} {
		wantErr(t, s, api.ErrNotDir)
	}
	for _, s := range []string{"m/x", "ms/x", "rm/x", "ping/x", "pong/x", "m/.", "m/..", "a/c/m/x", "a/c/rm/x", "dir/../m/x", "m/x/y"} {
		wantErr(t, s, api.ErrLoop)
	}
	for _, s := range []string{"long/x", "long2/x", "a/c/long/x"} {
		wantErr(t, s, api.ErrName)
	}
}

// P14.1: links last: not followed they are what is led to; followed, or with a slash behind, they are led through.
func TestLinksLast(t *testing.T) {
	for _, l := range links {
		wantFind(t, sample(), api.Env{Dir: nRoot}, l.name, false, at(nRoot, l.name, nodeOf(l.name)), api.OK)
		wantFind(t, sample(), api.Env{Dir: nRoot}, "dir/c/"+l.name, false, at(nC, l.name, nodeOf(l.name)), api.OK)
	}
	for called, want := range map[string]paths.Place{
		"l": at(nA, "b", nB), "dir": at(nRoot, "a", nA), "dirs": dirs(at(nRoot, "a", nA)), "rdir": at(nRoot, "a", nA), "rdirs": dirs(at(nRoot, "a", nA)), "deep": at(nA, "c", nC), "deeps": dirs(at(nA, "c", nC)), "todeep": at(nA, "c", nC), "todirs": dirs(at(nRoot, "a", nA)),
		"file": at(nRoot, "f", nF), "rfile": at(nRoot, "f", nF), "none": at(nRoot, "x", 0), "nones": dirs(at(nRoot, "x", 0)), "rnone": at(nA, "x", 0), "okay": at(nRoot, longest, nLong), "a/c/none": at(nC, "x", 0), "a/c/nones": dirs(at(nC, "x", 0)), "a/c/rnone": at(nA, "x", 0), "a/c/dir": at(nC, "a", 0), "a/c/file": at(nC, "f", 0), "a/c/files": dirs(at(nC, "f", 0)), "a/c/rfile": at(nRoot, "f", nF), "a/c/okay": at(nC, longest, 0), "tolink": at(nC, "a", 0), "dir/c/rdir": at(nRoot, "a", nA),
		"root": dirs(itself(nRoot)), "roots": dirs(itself(nRoot)), "dot": itself(nRoot), "dotss": dirs(itself(nRoot)), "up": itself(nRoot), "ups": dirs(itself(nRoot)), "rup": itself(nRoot), "back": itself(nRoot), "backs": dirs(itself(nRoot)), "stay": itself(nA),
		"a/c/root": dirs(itself(nRoot)), "a/c/dot": itself(nC), "a/c/dotss": dirs(itself(nC)), "a/c/up": itself(nA), "a/c/ups": dirs(itself(nA)), "a/c/rup": itself(nRoot),
	} {
		wantFind(t, sample(), api.Env{Dir: nRoot}, called, true, want, api.OK)
		if want.Node != nB && want.Node != nF { // a slash behind, which the followed link is led through by, too
			wantPlace(t, called+"/", dirs(want))
			wantPlace(t, called+"//", dirs(want))
		} else {
			wantErr(t, called+"/", api.ErrNotDir)
			wantErr(t, called+"//", api.ErrNotDir)
		}
	}
	for called, want := range map[string]api.Errno{
		"files": api.ErrNotDir, "rfiles": api.ErrNotDir, "inners": api.ErrNotDir, "infile": api.ErrNotDir, "none2": api.ErrNone, "m": api.ErrLoop, "ms": api.ErrLoop, "rm": api.ErrLoop, "ping": api.ErrLoop, "pong": api.ErrLoop, "long": api.ErrName, "long2": api.ErrName,
		"a/c/deep": api.ErrNone, "a/c/infile": api.ErrNone, "a/c/inners": api.ErrNone, "a/c/m": api.ErrLoop, "a/c/rm": api.ErrLoop, "a/c/rfiles": api.ErrNotDir, "a/c/back": api.ErrNone, "a/c/tolink": api.ErrNone,
	} {
		wantFind(t, sample(), api.Env{Dir: nRoot}, called, true, paths.Place{}, want)
		wantErr(t, called+"/", want)
		wantErr(t, called+"//", want)
	}
	wantFind(t, sample(), api.Env{Dir: nC}, "dot", true, itself(nC), api.OK)
	wantFind(t, sample(), api.Env{Dir: nC}, "dir", false, at(nC, "dir", nodeOf("dir")), api.OK)
}

// hops: links h1, h2 .. in the root, each to the next one, the last of so many to a target; and z, to the root itself.
func hops(n int, target string) api.Tree {
	t := tree.New()
	add(&t, 1, "a", dir(0o755))
	add(&t, 1, "z", link("."))
	for i := 1; i < n; i++ {
		add(&t, 1, "h"+strconv.Itoa(i), link("h"+strconv.Itoa(i+1)))
	}
	add(&t, 1, "h"+strconv.Itoa(n), link(target))
	return t
}

// P14.1: MaxHops links are led through, and not one more, whether one says the next one or they stand in the path; one that is not led through does not count.
func TestHops(t *testing.T) {
	e := api.Env{Dir: 1}
	x := hops(17, "a")
	wantFind(t, x, e, "h2", true, at(1, "a", 2), api.OK)
	wantBoth(t, x, e, "h2/", dirs(at(1, "a", 2)), api.OK)
	wantBoth(t, x, e, "h2/x", at(2, "x", 0), api.OK)
	wantFind(t, x, e, "h1", true, paths.Place{}, api.ErrLoop)
	wantFind(t, x, e, "h1", false, at(1, "h1", 4), api.OK)
	wantBoth(t, x, e, "h1/", paths.Place{}, api.ErrLoop)
	wantBoth(t, x, e, "h1/x", paths.Place{}, api.ErrLoop)
	wantBoth(t, x, e, "z/h2/x", paths.Place{}, api.ErrLoop)
	wantBoth(t, x, e, "z/h3/x", at(2, "x", 0), api.OK)
	wantBoth(t, x, e, "h10/../h10/x", at(2, "x", 0), api.OK) // 8 and 8
	wantBoth(t, x, e, "h10/../h9/x", paths.Place{}, api.ErrLoop)
	wantBoth(t, hops(16, "x"), e, "h1/", dirs(at(1, "x", 0)), api.OK)
	wantBoth(t, hops(17, "x/y/z"), e, "h1/", paths.Place{}, api.ErrLoop) // ahead of what the last one says
	wantBoth(t, hops(16, "x/y/z"), e, "h1/", paths.Place{}, api.ErrNone)
	wantFind(t, hops(16, "z"), e, "h1", true, paths.Place{}, api.ErrLoop)

	zs := func(n int) string { return strings.Repeat("z/", n) }
	wantFind(t, x, e, zs(16)+"a", true, at(1, "a", 2), api.OK)
	wantBoth(t, x, e, zs(17)+"a", paths.Place{}, api.ErrLoop)
	wantBoth(t, x, e, zs(16), dirs(itself(1)), api.OK)
	wantBoth(t, x, e, zs(17), paths.Place{}, api.ErrLoop)
	wantFind(t, x, e, zs(15)+"z", true, itself(1), api.OK)
	wantFind(t, x, e, zs(16)+"z", true, paths.Place{}, api.ErrLoop)
	wantFind(t, x, e, zs(16)+"z", false, at(1, "z", 3), api.OK)
	wantFind(t, x, e, zs(15)+"z", false, at(1, "z", 3), api.OK)
	wantBoth(t, x, e, zs(512), paths.Place{}, api.ErrLoop)

	long := tree.New() // a link that says as much as may be, again and again
	add(&long, 1, "l", link(strings.Repeat("l/", 512)))
	wantFind(t, long, e, "l", false, at(1, "l", 2), api.OK)
	wantFind(t, long, e, "l", true, paths.Place{}, api.ErrLoop)
	wantBoth(t, long, e, strings.Repeat("l/", 512), paths.Place{}, api.ErrLoop)
	wide := hops(2, strings.Repeat("./", 512))
	wantBoth(t, wide, e, strings.Repeat("h2/", 16)+"a", at(1, "a", 2), api.OK)
	wantBoth(t, wide, e, strings.Repeat("h2/", 17)+"a", paths.Place{}, api.ErrLoop)
	wantBoth(t, wide, e, strings.Repeat("h1/", 8)+"a", at(1, "a", 2), api.OK)
	wantBoth(t, wide, e, strings.Repeat("h1/", 9)+"a", paths.Place{}, api.ErrLoop)
}

// guarded: the sample, of whose directories one is only the user 6's, or its group's.
func guarded(d, mode int) api.Tree {
	t := sample()
	t.Nodes[d].Mode, t.Nodes[d].User, t.Nodes[d].Group = mode, 6, 7
	return t
}

// P14.1: somebody who may not go through a directory: each part at it is ErrPerm, but it may be led to.
func TestNotThrough(t *testing.T) {
	other := api.Env{User: 5, Group: 5, Dir: nRoot}
	inA := api.Env{User: 5, Group: 5, Dir: nA}
	for _, mode := range []int{0, 0o700, 0o770, 0o776, 0o706, 0o666} {
		x := guarded(nA, mode)
		wantBoth(t, x, other, "a", at(nRoot, "a", nA), api.OK)
		wantBoth(t, x, other, "a/", dirs(at(nRoot, "a", nA)), api.OK)
		wantFind(t, x, other, "dir", true, at(nRoot, "a", nA), api.OK)
		wantBoth(t, x, other, "dir/", dirs(at(nRoot, "a", nA)), api.OK)
		wantFind(t, x, other, "l", false, at(nRoot, "l", nodeOf("l")), api.OK)
		for _, s := range []string{"a/b", "a/x", "a/.", "a/..", "a/./", "a/../f", "a/c", "a/c/d", "a/x/y", "a/b/x", "dir/b", "dir/x", "rdir/.", "deep/d", "back/f", "rnone/x", "a/" + tooLong} {
			wantBoth(t, x, other, s, paths.Place{}, api.ErrPerm)
		}
		wantFind(t, x, other, "l", true, paths.Place{}, api.ErrPerm)
		wantBoth(t, x, other, "l/", paths.Place{}, api.ErrPerm)
		for _, s := range []string{".", "..", "./", "../", "b", "x", "../f", "./.", "x/y", tooLong, tooLong + "/x"} {
			wantBoth(t, x, inA, s, paths.Place{}, api.ErrPerm)
		}
		wantBoth(t, x, inA, "/", dirs(itself(nRoot)), api.OK)
		wantBoth(t, x, inA, "/f", at(nRoot, "f", nF), api.OK)
		wantBoth(t, x, api.Env{User: 5, Dir: nC}, "d", at(nC, "d", nD), api.OK)
		wantBoth(t, x, api.Env{User: 5, Dir: nC}, "..", itself(nA), api.OK)
		wantBoth(t, x, api.Env{User: 5, Dir: nC}, "../c", paths.Place{}, api.ErrPerm)
		wantBoth(t, x, api.Env{Dir: nA}, "../a/b", at(nA, "b", nB), api.OK) // the user 0
	}
	x := guarded(nRoot, 0o700)
	wantBoth(t, x, other, "/", dirs(itself(nRoot)), api.OK)
	wantBoth(t, x, other, "///", dirs(itself(nRoot)), api.OK)
	for _, s := range []string{"a", "/a", "/.", "/..", ".", "..", "./", "/x", "x/y", "m/x"} {
		wantBoth(t, x, other, s, paths.Place{}, api.ErrPerm)
	}
	wantBoth(t, x, inA, "b", at(nA, "b", nB), api.OK)
	wantBoth(t, x, inA, "..", itself(nRoot), api.OK)
	wantBoth(t, x, inA, "../a", paths.Place{}, api.ErrPerm)
	wantFind(t, x, inA, "c/rup", false, at(nC, "rup", nodeOf("rup")), api.OK)
	wantFind(t, x, inA, "c/rup", true, paths.Place{}, api.ErrPerm)
	wantFind(t, x, inA, "c/root", true, dirs(itself(nRoot)), api.OK)
}

// P14.1: it is the 1 of a directory that counts, of the bits that somebody has of it; of a link or a file, none.
func TestWhoPasses(t *testing.T) {
	for mode := range 512 {
		x := guarded(nA, mode)
		for _, c := range []struct {
			e   api.Env
			bit int
		}{{api.Env{User: 6, Group: 5}, 64}, {api.Env{User: 6, Group: 7}, 64}, {api.Env{User: 5, Group: 7}, 8}, {api.Env{User: 5, Group: 5}, 1}} {
			c.e.Dir = nRoot
			if mode&c.bit != 0 {
				wantBoth(t, x, c.e, "a/b", at(nA, "b", nB), api.OK)
			} else {
				wantBoth(t, x, c.e, "a/b", paths.Place{}, api.ErrPerm)
			}
		}
		wantBoth(t, x, api.Env{Dir: nRoot}, "a/b", at(nA, "b", nB), api.OK)
	}
	x := sample()
	x.Nodes[nB].Mode, x.Nodes[nB].User, x.Nodes[nF].Mode = 0, 6, 0
	other := api.Env{User: 5, Group: 5, Dir: nRoot}
	wantBoth(t, x, other, "a/b", at(nA, "b", nB), api.OK)
	wantFind(t, x, other, "l", true, at(nA, "b", nB), api.OK)
	wantBoth(t, x, other, "f/x", paths.Place{}, api.ErrNotDir)
}

// P14.1: the first error on the way.
func TestFirstError(t *testing.T) {
	x := guarded(nC, 0)
	other := api.Env{User: 5, Group: 5, Dir: nRoot}
	for s, want := range map[string]api.Errno{
		"x/" + tooLong: api.ErrNone, tooLong + "/f/x": api.ErrName, "f/" + tooLong: api.ErrNotDir, "x/m/y": api.ErrNone, "m/" + tooLong: api.ErrLoop, "f/m/x": api.ErrNotDir, "m/f/x": api.ErrLoop, "x/f/": api.ErrNone,
		"a/c/" + tooLong: api.ErrPerm, "a/" + tooLong + "/c/d": api.ErrName, "a/c/x/y": api.ErrPerm, "a/x/c/d": api.ErrNone, "a/b/../c/d": api.ErrNotDir, "a/c/../b/x": api.ErrPerm, "a/c/m/x": api.ErrPerm, "m/a/c/d": api.ErrLoop, "deep/x": api.ErrPerm, "deep/" + tooLong: api.ErrPerm, "a/c/d/": api.ErrPerm, "file/../deep/d": api.ErrNotDir,
		"none/" + tooLong: api.ErrNone, "long/../x/y": api.ErrName, "dir/x/" + tooLong: api.ErrNone, "dir/" + tooLong + "/x": api.ErrName,
	} {
		wantBoth(t, x, other, s, paths.Place{}, want)
	}
}

// P14.1: every path of some bytes, in a tree with links that say such paths, for several who act.
func TestAllShortPaths(t *testing.T) {
	x := tree.New()
	a := add(&x, 1, "a", dir(0o755))
	add(&x, a, "b", file("x"))
	add(&x, a, "l", link("../l"))
	add(&x, a, "a", dir(0o711))
	add(&x, 1, "l", link("a/"))
	add(&x, 1, "b", link("/a/a"))
	guarded := x
	guarded.Nodes = slices.Clone(x.Nodes)
	guarded.Nodes[a].Mode = 0o644
	const letters = "/.abl"
	var each func(path string, left int)
	each = func(path string, left int) {
		sameAsSlow(t, x, api.Env{Dir: 1}, path)
		sameAsSlow(t, x, api.Env{Dir: a}, path)
		sameAsSlow(t, guarded, api.Env{User: 5, Dir: 1}, path)
		for i := 0; left > 0 && i < len(letters); i++ {
			each(path+letters[i:i+1], left-1)
		}
	}
	each("", 7)
}

// randomPath: a path of such parts as trees have, and of others.
func randomPath(r *rand.Rand, parts int) string {
	words := []string{"a", "b", "c", "a", "b", "c", ".", "..", "ab", "...", "x", longest, tooLong, "\xff"}
	var out strings.Builder
	if r.Intn(3) == 0 {
		out.WriteString("/")
	}
	for i := range parts {
		if i > 0 {
			out.WriteString(strings.Repeat("/", 1+r.Intn(8)/7))
		}
		out.WriteString(words[min(r.Intn(len(words)), r.Intn(len(words)))])
	}
	if out.Len() == 0 || r.Intn(5) == 0 {
		out.WriteString(strings.Repeat("/", 1+r.Intn(2)))
	}
	return out.String()
}

// randomTree: with directories that not everybody may go through, and links of all sorts, some of them by several names.
func randomTree(r *rand.Rand) api.Tree {
	x := tree.New()
	in, others := []int{1}, []int{}
	names := []string{"a", "b", "c", "ab", "...", longest, "\xff"}
	modes := []int{0o755, 0o755, 0o711, 0o700, 0o070, 0o001, 0, 0o666}
	for range 1 + r.Intn(14) {
		d := in[r.Intn(len(in))]
		called := names[r.Intn(len(names))]
		if tree.Find(x, d, called) != 0 {
			continue
		}
		switch kind := r.Intn(6); {
		case kind == 0 && len(others) > 0:
			name(&x, d, called, others[r.Intn(len(others))])
		case kind == 1:
			others = append(others, add(&x, d, called, file(called)))
		case kind <= 3:
			others = append(others, add(&x, d, called, link(randomPath(r, r.Intn(4)))))
		default:
			in = append(in, add(&x, d, called, dir(modes[r.Intn(len(modes))])))
			x.Nodes[len(x.Nodes)-1].User = r.Intn(2) * 5
		}
	}
	return x
}

// dirsOf: the numbers of a tree's directories.
func dirsOf(x api.Tree) []int {
	var out []int
	for i, n := range x.Nodes {
		if n.Kind == api.NoDir {
			out = append(out, i)
		}
	}
	return out
}

// somebody who may be in a tree.
func somebody(r *rand.Rand, x api.Tree) api.Env {
	in := dirsOf(x)
	return api.Env{User: []int{0, 5, 6}[r.Intn(3)], Group: r.Intn(2), Mask: 18, Dir: in[r.Intn(len(in))]}
}

// P14.1: trees, people and paths of all kinds, held against the slow reading.
func TestAny(t *testing.T) {
	r := rand.New(rand.NewSource(14))
	for range 6000 {
		x := randomTree(r)
		if !tree.Check(x) {
			t.Fatalf("a tree that may not be: %+v", x)
		}
		for range 60 {
			sameAsSlow(t, x, somebody(r, x), randomPath(r, r.Intn(6)))
		}
	}
}

// P14.1: what is answered hangs together, and with what tree tells.
func TestPlaceInTree(t *testing.T) {
	r := rand.New(rand.NewSource(5))
	for range 2000 {
		x := randomTree(r)
		for range 20 {
			e, path, follow := somebody(r, x), randomPath(r, r.Intn(5)), r.Intn(2) == 0
			p, err := paths.Find(x, e, path, follow)
			if err != api.OK {
				if p != (paths.Place{}) {
					t.Fatalf("Find(%q): %+v beside %d", path, p, err)
				}
				continue
			}
			d, derr := tree.Stat(x, p.Dir)
			if derr != api.OK || d.Kind != api.NoDir {
				t.Fatalf("Find(%q): %+v: Dir is no directory", path, p)
			}
			if p.Name == "" && p.Node != p.Dir || p.Name != "" && p.Node != tree.Find(x, p.Dir, p.Name) {
				t.Fatalf("Find(%q): %+v: Node is not what Dir lists", path, p)
			}
			kind := x.Nodes[p.Node].Kind
			if p.Dirs && kind != api.NoDir && kind != api.NoNone || follow && kind == api.NoLink {
				t.Fatalf("Find(%q, %v): %+v: a node of the kind %d", path, follow, p, kind)
			}
			if strings.HasSuffix(path, "/") && !p.Dirs {
				t.Fatalf("Find(%q): %+v: no Dirs", path, p)
			}
		}
	}
}

// P14.3: each directory's path leads the user 0 to it, wherever they are.
func TestPathOfDirectory(t *testing.T) {
	r := rand.New(rand.NewSource(3))
	for range 2000 {
		x := randomTree(r)
		all := dirsOf(x)
		for _, d := range all {
			path, err := tree.Path(x, d)
			if err != api.OK {
				t.Fatal(err)
			}
			for _, from := range all {
				for _, follow := range []bool{false, true} {
					p, err := paths.Find(x, api.Env{Dir: from}, path, follow)
					if err != api.OK || p.Node != d || p.Dir != x.Nodes[d].Parent || p.Dirs != (d == 1) || p.Name != strings.TrimLeft(paths.Base(path), "/") {
						t.Fatalf("Find(%q, %v): %+v %d, want the node %d", path, follow, p, err, d)
					}
				}
			}
		}
	}
}

// P14.3: so it does as deep as may be, while it is not longer than a path may be.
func TestDeepDirectory(t *testing.T) {
	for _, c := range []struct {
		long int
		err  api.Errno
	}{{1, api.OK}, {30, api.OK}, {31, api.OK}, {32, api.ErrName}, {64, api.ErrName}} {
		x := tree.New()
		d := 1
		for range api.MaxDeep {
			d = add(&x, d, strings.Repeat("n", c.long), dir(0))
		}
		path, err := tree.Path(x, d)
		if err != api.OK || len(path) != api.MaxDeep*(1+c.long) {
			t.Fatalf("Path: %d bytes, %d", len(path), err)
		}
		p, err := paths.Find(x, api.Env{Dir: 1}, path, false)
		if err != c.err || err == api.OK && p != at(x.Nodes[d].Parent, strings.Repeat("n", c.long), d) {
			t.Errorf("names of %d bytes: %+v %d, want %d", c.long, p, err, c.err)
		}
	}
}

// withMore: a path with slashes more, and parts `.`, ahead of its parts.
func withMore(r *rand.Rand, path string) string {
	var out strings.Builder
	for i := range len(path) {
		begins := path[i] != '/' && (i == 0 || path[i-1] == '/')
		for begins && r.Intn(2) == 0 {
			out.WriteString("." + strings.Repeat("/", 1+r.Intn(3)))
		}
		out.WriteByte(path[i])
		if path[i] == '/' {
			out.WriteString(strings.Repeat("/", r.Intn(3)))
		}
	}
	return out.String()
}

// P14.3: slashes more, and parts `.`, make no difference.
func TestMoreSlashesAndDots(t *testing.T) {
	r := rand.New(rand.NewSource(33))
	found := 0
	for range 4000 {
		x := randomTree(r)
		for range 20 {
			e, path, follow := somebody(r, x), randomPath(r, r.Intn(6)), r.Intn(2) == 0
			more := withMore(r, path)
			if len(more) > api.MaxPath {
				continue
			}
			p, err := paths.Find(x, e, path, follow)
			if q, qerr := paths.Find(x, e, more, follow); q != p || qerr != err {
				t.Fatalf("Find(%q, %v): %+v %d; Find(%q): %+v %d", path, follow, p, err, more, q, qerr)
			}
			if err == api.OK && p.Node > 1 {
				found++
			}
		}
	}
	if found < 1000 {
		t.Errorf("only %d paths led anywhere", found)
	}
}

// P14.1, P14.2: a path without slashes at its end leads where its last part leads, in what is ahead of it.
func TestDirAndBaseLead(t *testing.T) {
	r := rand.New(rand.NewSource(34))
	for range 3000 {
		x := randomTree(r)
		for range 20 {
			e, path, follow := somebody(r, x), strings.TrimRight(randomPath(r, r.Intn(6)), "/"), r.Intn(2) == 0
			if path == "" {
				continue
			}
			p, err := paths.Find(x, e, path, follow)
			if q, qerr := paths.Find(x, e, paths.Join(paths.Dir(path), paths.Base(path)), follow); q != p || qerr != err {
				t.Fatalf("Find(%q): %+v %d; in its Dir: %+v %d", path, p, err, q, qerr)
			}
		}
	}
}

func wantBase(t *testing.T, path, want string) {
	t.Helper()
	if got := paths.Base(path); got != want {
		t.Errorf("Base(%.80q): %.80q, want %.80q", path, got, want)
	}
}

func wantDir(t *testing.T, path, want string) {
	t.Helper()
	if got := paths.Dir(path); got != want {
		t.Errorf("Dir(%.80q): %.80q, want %.80q", path, got, want)
	}
}

func wantJoin(t *testing.T, path, name, want string) {
	t.Helper()
	if got := paths.Join(path, name); got != want {
		t.Errorf("Join(%.80q, %.80q): %.80q, want %.80q", path, name, got, want)
	}
}

// P14.2: of empty paths, slashes alone, paths with and without slashes at both ends.
func TestBaseAndDir(t *testing.T) {
	for _, c := range [][3]string{
		{"", ".", "."}, {"/", "/", "/"}, {"//", "/", "/"}, {"/////", "/", "/"},
		{"a", "a", "."}, {"a/", "a", "."}, {"a///", "a", "."}, {"/a", "a", "/"}, {"//a", "a", "/"}, {"/a/", "a", "/"}, {"///a//", "a", "/"},
		{"a/b", "b", "a"}, {"a//b", "b", "a"}, {"a/b/", "b", "a"}, {"a///b//", "b", "a"}, {"/a/b", "b", "/a"}, {"//a/b", "b", "//a"}, {"//a//b//", "b", "//a"}, {"/a/b/", "b", "/a"},
		{"a/b/c", "c", "a/b"}, {"a//b//c", "c", "a//b"}, {"/a//b///c/", "c", "/a//b"},
		{".", ".", "."}, {"..", "..", "."}, {"./", ".", "."}, {"../", "..", "."}, {"/.", ".", "/"}, {"/..", "..", "/"}, {"a/.", ".", "a"}, {"a/..", "..", "a"}, {"./a", "a", "."}, {"../a", "a", ".."}, {"../..", "..", ".."}, {"./.", ".", "."},
		{" ", " ", "."}, {"a b/c d", "c d", "a b"}, {"\n/\n", "\n", "\n"}, {"\x00/\x00", "\x00", "\x00"}, {"\xff/\xc3", "\xc3", "\xff"}, {"\xc3/\xa4/", "\xa4", "\xc3"}, {"ä/ö", "ö", "ä"}, {"\\/a\\", "a\\", "\\"},
	} {
		wantBase(t, c[0], c[1])
		wantDir(t, c[0], c[2])
	}
}

// P14.2: empty paths, empty names, slashes at the ends of both.
func TestJoin(t *testing.T) {
	for _, c := range [][3]string{
		{"", "", ""}, {"", "a", "a"}, {"", "/", "/"}, {"", "/a", "/a"}, {"a", "", "a/"}, {"a/", "", "a/"}, {"/", "", "/"}, {"//", "", "//"},
		{"/", "a", "/a"}, {"//", "a", "//a"}, {"a", "b", "a/b"}, {"a/", "b", "a/b"}, {"a//", "b", "a//b"}, {"/a", "b", "/a/b"}, {"/a/", "b", "/a/b"}, {"a", "/b", "a//b"}, {"a/", "/b", "a//b"}, {"/", "/", "//"}, {"a", "b/", "a/b/"}, {"a", "b/c", "a/b/c"},
		{".", "a", "./a"}, {"..", "..", "../.."}, {"a", ".", "a/."}, {" ", " ", " / "}, {"\x00", "\xff", "\x00/\xff"}, {"a\n", "b", "a\n/b"},
	} {
		wantJoin(t, c[0], c[1], c[2])
	}
}

// slowBase, slowDir: a byte at a time.
func slowBase(path string) string {
	if path == "" {
		return "."
	}
	last, between := "", true
	for _, c := range []byte(path) {
		switch {
		case c == '/':
			between = true
		case between:
			last, between = string([]byte{c}), false
		default:
			last += string([]byte{c})
		}
	}
	if last == "" {
		return "/"
	}
	return last
}

func slowDir(path string) string {
	left := []byte(path)
	drop := func(slashes bool) {
		for len(left) > 0 && (left[len(left)-1] == '/') == slashes {
			left = left[:len(left)-1]
		}
	}
	drop(true)
	drop(false)
	drop(true)
	if len(left) > 0 {
		return string(left)
	}
	if path != "" && path[0] == '/' {
		return "/"
	}
	return "."
}

// P14.2: all short paths, held against the slow readings.
func TestAllBasesAndDirs(t *testing.T) {
	const letters = "/.a\xff"
	var each func(path string, left int)
	each = func(path string, left int) {
		wantBase(t, path, slowBase(path))
		wantDir(t, path, slowDir(path))
		for _, n := range []string{"", "a", "/", "/a", "."} {
			want := n
			if path != "" && path[len(path)-1] == '/' {
				want = path + n
			} else if path != "" {
				want = path + "/" + n
			}
			wantJoin(t, path, n, want)
		}
		for i := 0; left > 0 && i < len(letters); i++ {
			each(path+letters[i:i+1], left-1)
		}
	}
	each("", 8)
}

// R1: trees, people and paths such as none of the calls makes.
func TestWild(t *testing.T) {
	r := rand.New(rand.NewSource(1))
	numbers := []int{0, 1, 1, 2, 2, 3, 4, -1, 511, 512, 65535, 65536, 1 << 40, math.MaxInt, math.MinInt}
	number := func() int { return numbers[r.Intn(len(numbers))] }
	texts := []string{"", "a", "b", "a/b", ".", "..", "/", "a\x00", tooLong}
	text := func() string { return texts[r.Intn(len(texts))] }
	for range 40000 {
		x := randomTree(r)
		for range r.Intn(4) {
			n := &x.Nodes[r.Intn(len(x.Nodes))]
			switch r.Intn(9) {
			case 0:
				n.Kind = api.NodeKind(r.Intn(6))
			case 1:
				n.Parent = number()
			case 2:
				n.Target = text()
			case 3:
				n.List = append(n.List, api.Entry{Name: text(), Node: number()})
			case 4:
				n.Links = number()
			case 5:
				n.Mode = number()
			case 6:
				x.Nodes = x.Nodes[:1+r.Intn(len(x.Nodes))]
			case 7:
				x.Now = number()
			case 8:
				n.User = number()
			}
		}
		e := api.Env{User: number(), Group: number(), Mask: number(), Dir: number()}
		if r.Intn(2) == 0 {
			e = api.Env{Dir: number()}
		}
		sameAsSlow(t, x, e, randomPath(r, r.Intn(5)))
		sameAsSlow(t, x, e, text())
	}
}

// R1: what is far beyond any limit is answered, too.
func TestFarBeyond(t *testing.T) {
	began := time.Now()
	long := strings.Repeat("a/", 1<<24)
	e := api.Env{Dir: 1}
	for _, s := range []string{long, "/" + long, long + "b", strings.Repeat("/", 1<<25), strings.Repeat("\x00", 1<<25), strings.Repeat("n", 1<<25)} {
		if p, err := paths.Find(sample(), e, s, true); p != (paths.Place{}) || err != api.ErrName {
			t.Errorf("a path of %d bytes: %+v %d", len(s), p, err)
		}
	}
	wantBase(t, long+"b", "b")
	wantBase(t, long, "a")
	wantBase(t, strings.Repeat("/", 1<<25), "/")
	wantDir(t, long+"b", long[:len(long)-1])
	wantDir(t, "a"+strings.Repeat("/", 1<<25)+"b", "a")
	wantDir(t, strings.Repeat("/", 1<<25), "/")
	wantJoin(t, long, "b", long+"b")
	for _, n := range []int{514, 1 << 20} {
		x := api.Tree{Nodes: make([]api.Node, n)}
		wantBoth(t, x, e, "a", paths.Place{}, api.ErrArg)
	}
	if gone := time.Since(began); gone > 20*time.Second {
		t.Errorf("it took %v", gone)
	}
}

// R1: a full tree, and the longest way that may be in it.
func TestLongestWay(t *testing.T) {
	x := tree.New()
	for i := 2; i < api.MaxNodes; i++ {
		add(&x, 1, "f"+strconv.Itoa(i), file(""))
	}
	add(&x, 1, "l", link(strings.Repeat("./", 511)+"l"))
	began := time.Now()
	for range 100 {
		if _, err := paths.Find(x, api.Env{Dir: 1}, "l", true); err != api.ErrLoop {
			t.Fatal(err)
		}
	}
	if gone := time.Since(began); gone > 5*time.Second {
		t.Errorf("it took %v", gone)
	}
}

// deepCopy: a tree with all its spare room.
func deepCopy(x api.Tree) api.Tree {
	out := api.Tree{Now: x.Now, Nodes: slices.Clone(x.Nodes[:cap(x.Nodes)])}
	for i, n := range out.Nodes {
		out.Nodes[i].Data = slices.Clone(n.Data[:cap(n.Data)])
		out.Nodes[i].List = slices.Clone(n.List[:cap(n.List)])
	}
	return out
}

// R4: what is handed in is not changed, its spare room neither. R5: what is asked again is answered alike, whatever was asked between.
func TestNotChanged(t *testing.T) {
	r := rand.New(rand.NewSource(4))
	for range 2000 {
		x := randomTree(r)
		x.Nodes = append(x.Nodes, api.Node{Mode: 7, Data: []byte("spare")}, api.Node{Links: 3})[:len(x.Nodes)]
		for k := range x.Nodes {
			n := &x.Nodes[k]
			n.Data = append(slices.Clone(n.Data), "spare"...)[:len(n.Data)]
			n.List = append(slices.Clone(n.List), api.Entry{Name: "spare", Node: 9}, api.Entry{Name: "a", Node: 1})[:len(n.List)]
		}
		was := deepCopy(x)
		e := somebody(r, x)
		all := []string{randomPath(r, 3), randomPath(r, 2), randomPath(r, 5), "spare", "a/spare"}
		var places []paths.Place
		for range 2 {
			for _, s := range all {
				p, err := paths.Find(x, e, s, true)
				places = append(places, p, paths.Place{Dir: int(err)})
			}
		}
		if now := deepCopy(x); !reflect.DeepEqual(now, was) {
			t.Fatalf("changed: %+v, was %+v", now, was)
		}
		if !slices.Equal(places[:len(places)/2], places[len(places)/2:]) {
			t.Fatalf("asked again: %+v", places)
		}
	}
}

// R4: lists that are empty are as none.
func TestEmptyLists(t *testing.T) {
	x := sample()
	for i := range x.Nodes {
		n := &x.Nodes[i]
		if len(n.Data) == 0 {
			n.Data = []byte("x")[:0]
		}
		if len(n.List) == 0 {
			n.List = []api.Entry{{Name: "x", Node: nB}}[:0]
		}
	}
	e := api.Env{Dir: nRoot}
	wantBoth(t, x, e, longest+"/x", at(nLong, "x", 0), api.OK)
	wantBoth(t, x, e, "a/c/d", at(nC, "d", nD), api.OK)
	wantBoth(t, x, e, "a/c/d/", paths.Place{}, api.ErrNotDir)
}
