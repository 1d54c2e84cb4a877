package calls_test

import (
	"slices"
	"strings"
	"testing"

	"toolchest/api"
	"toolchest/calls"
	"toolchest/tree"
)

// P15.1, CaRename: files and links, to where nothing is, and onto others.
func TestRenameFiles(t *testing.T) {
	wantChanges(t, small(), by(master, rename("b", "c")), "1 dir 755 0 0 3 9 ^1 c=4 d=2 l=5")
	wantChanges(t, small(), by(master, rename("b", "z")), "1 dir 755 0 0 3 9 ^1 d=2 l=5 z=4")
	wantChanges(t, small(), by(master, rename("b", "d/b")), "1 dir 755 0 0 3 9 ^1 d=2 l=5; 2 dir 755 0 0 2 9 ^1 a=3 b=4")
	wantChanges(t, small(), by(in(master, 2), rename("a", "../a")), "1 dir 755 0 0 3 9 ^1 a=3 b=4 d=2 l=5; 2 dir 755 0 0 2 9 ^1")
	wantChanges(t, small(), by(master, rename("b", "d/a")), "1 dir 755 0 0 3 9 ^1 d=2 l=5; 2 dir 755 0 0 2 9 ^1 a=4; 3 none 0 0 0 0 0")
	wantChanges(t, small(), by(master, rename("d/a", "b")), "1 dir 755 0 0 3 9 ^1 b=3 d=2 l=5; 2 dir 755 0 0 2 9 ^1; 4 none 0 0 0 0 0")
	wantChanges(t, small(), by(master, rename("b", "l")), "1 dir 755 0 0 3 9 ^1 d=2 l=4; 5 gone")
	wantChanges(t, small(), by(master, rename("l", "b")), "1 dir 755 0 0 3 9 ^1 b=5 d=2; 4 none 0 0 0 0 0")
	wantChanges(t, small(), by(master, rename("l", "d/m")), "1 dir 755 0 0 3 9 ^1 b=4 d=2; 2 dir 755 0 0 2 9 ^1 a=3 m=5")
	wantChanges(t, done(t, small(), by(master, unlink("b"))), by(master, rename("d/a", "l")), "1 dir 755 0 0 3 9 ^1 d=2 l=3; 2 dir 755 0 0 2 9 ^1; 4 gone; 5 gone")
	two := done(t, small(), by(master, link("b", "c")))
	wantChanges(t, two, by(master, rename("d/a", "c")), "1 dir 755 0 0 3 9 ^1 b=4 c=3 d=2 l=5; 2 dir 755 0 0 2 9 ^1; 4 file 644 0 0 1 3 bbb")
	wantChanges(t, two, by(master, rename("c", "d/a")), "1 dir 755 0 0 3 9 ^1 b=4 d=2 l=5; 2 dir 755 0 0 2 9 ^1 a=4; 3 none 0 0 0 0 0")
}

// P15.1, CaRename: directories. Parent, and the links of the directories that it leaves and comes to, go with it.
func TestRenameDirs(t *testing.T) {
	wantChanges(t, small(), by(master, rename("d", "c")), "1 dir 755 0 0 3 9 ^1 b=4 c=2 l=5")
	wantChanges(t, small(), by(master, rename("d/", "c//")), "1 dir 755 0 0 3 9 ^1 b=4 c=2 l=5")
	x := done(t, small(), by(master, mkdir("e")), by(master, mkdir("e/f")), by(master, tick(1)))
	wantChanges(t, x, by(master, rename("d", "e/d")), "1 dir 755 0 0 3 10 ^1 b=4 e=6 l=5; 2 dir 755 0 0 2 3 ^6 a=3; 6 dir 755 0 0 4 10 ^1 d=2 f=7")
	wantChanges(t, x, by(master, rename("d", "e/f")), "1 dir 755 0 0 3 10 ^1 b=4 e=6 l=5; 2 dir 755 0 0 2 3 ^6 a=3; 6 dir 755 0 0 3 10 ^1 f=2; 7 gone")
	wantChanges(t, x, by(in(master, 6), rename("f/", "../d/f/")), "2 dir 755 0 0 3 10 ^1 a=3 f=7; 6 dir 755 0 0 2 10 ^1; 7 dir 755 0 0 2 9 ^2")
	wantChanges(t, x, by(in(master, 7), rename("/e/f", "/f")), "1 dir 755 0 0 5 10 ^1 b=4 d=2 e=6 f=7 l=5; 6 dir 755 0 0 2 10 ^1; 7 dir 755 0 0 2 9 ^1")
	wantChanges(t, x, by(in(master, 6), rename("/e", "/g")), "1 dir 755 0 0 4 10 ^1 b=4 d=2 g=6 l=5")
	x = done(t, x, by(master, unlink("d/a")))
	wantChanges(t, x, by(master, rename("e", "d")), "1 dir 755 0 0 3 10 ^1 b=4 d=6 l=5; 2 none 0 0 0 0 0")
	wantChanges(t, x, by(master, rename("d", "e/f")), "1 dir 755 0 0 3 10 ^1 b=4 e=6 l=5; 2 dir 755 0 0 2 10 ^6; 6 dir 755 0 0 3 10 ^1 f=2; 7 gone")
	wantChanges(t, done(t, x, by(master, symlink("d", "k"))), by(master, rename("k/", "e/x")), "1 dir 755 0 0 3 10 ^1 b=4 e=6 k=3 l=5; 2 dir 755 0 0 2 10 ^6; 6 dir 755 0 0 4 10 ^1 f=7 x=2")
}

// P15.1, CaRename: onto itself, and onto another name of the same node: nothing is done, whoever it is.
func TestRenameSame(t *testing.T) {
	x := done(t, sample(), by(master, tick(5)), by(master, link("lf", "lg")))
	for _, e := range []api.Env{master, owner, guest, in(master, nD)} {
		for _, c := range [][2]string{{"/f", "/f"}, {"/f", "/d/../f"}, {"/d", "/d"}, {"/d", "/d/"}, {"/d/", "/ld/"}, {"/d/g", "/d/h"}, {"/d/h", "/ld/g"}, {"/lf", "/lf"}, {"/lf", "/lg"}, {"/loop", "/loop"}, {"/d/e", "/ld/e"}} {
			wantChanges(t, x, by(e, rename(c[0], c[1])), "")
		}
	}
}

// P15.1, CaRename: what refuses it, in order.
func TestRenameRefused(t *testing.T) {
	x := sample()
	for _, c := range []struct {
		e           api.Env
		path, other string
		err         api.Errno
	}{
		{master, "", "n", api.ErrNone}, {master, "f", "", api.ErrNone}, {master, ".", "", api.ErrNone}, {master, "x/y", "loop/x", api.ErrNone}, {master, ".", "f/x", api.ErrNotDir}, {master, "n", "loop/x", api.ErrLoop}, {master, "f/", "n", api.ErrNotDir}, {master, "d", "f/", api.ErrNotDir}, {guest, "shut/in", "x/y", api.ErrPerm}, {guest, "f", "shut/n", api.ErrPerm}, {master, "f", strings.Repeat("n", 65), api.ErrName},
		{master, "/", "n", api.ErrBusy}, {master, ".", "n", api.ErrBusy}, {master, "d/.", "n", api.ErrBusy}, {master, "d/..", "n", api.ErrBusy}, {master, "f", "/", api.ErrBusy}, {master, "f", ".", api.ErrBusy}, {master, "d", "..", api.ErrBusy}, {master, "n", ".", api.ErrBusy}, {master, ".", ".", api.ErrBusy}, {master, "/", "/", api.ErrBusy}, {master, "d", "d/.", api.ErrBusy}, {guest, "f", ".", api.ErrBusy}, {guest, ".", "n", api.ErrBusy},
		{master, "n", "m", api.ErrNone}, {master, "n", "f", api.ErrNone}, {master, "n/", "d", api.ErrNone}, {master, "n", "n", api.ErrNone}, {guest, "n", "m", api.ErrNone}, {master, "n", "m/", api.ErrNone}, {master, "ln/", "m", api.ErrNone},
		{master, "d", "d/n", api.ErrInto}, {master, "d", "d/e", api.ErrInto}, {master, "d", "d/g", api.ErrInto}, {master, "d", "d/e/n", api.ErrInto}, {master, "d", "ld/n", api.ErrInto}, {master, "d", "d/e/n/", api.ErrInto}, {in(master, nE), "..", "n", api.ErrBusy}, {in(master, nE), "/d", "n", api.ErrInto}, {guest, "d", "d/n", api.ErrInto}, {guest, "d", "d/g", api.ErrInto}, {in(master, nE), "/d", "../e", api.ErrInto},
		{master, "d", "f", api.ErrNotDir}, {master, "d", "lf", api.ErrNotDir}, {master, "d", "ld", api.ErrNotDir}, {master, "d", "ln", api.ErrNotDir}, {master, "z", "d/g", api.ErrNotDir}, {guest, "d", "f", api.ErrNotDir}, {guest, "z", "open/all", api.ErrNotDir},
		{master, "z", "d", api.ErrBusy}, {master, "z", "d/", api.ErrBusy}, {master, "z", "ld/", api.ErrBusy}, {in(master, nZ), "/d", "/z", api.ErrBusy}, {in(master, nE), "/z", "/d/e", api.ErrBusy}, {guest, "z", "d", api.ErrBusy}, {in(guest, nZ), "/d", "/z", api.ErrBusy}, {master, "d/e", "d", api.ErrBusy},
		{master, "f", "d", api.ErrDir}, {master, "f", "z", api.ErrDir}, {master, "f", "z/", api.ErrDir}, {master, "lf", "d", api.ErrDir}, {master, "d/g", "d", api.ErrDir}, {master, "d/g", "d/e", api.ErrDir}, {guest, "f", "d", api.ErrDir}, {master, "f", "ld/", api.ErrDir}, {in(master, nZ), "/f", "/z", api.ErrDir},
		{master, "f", "n/", api.ErrNotDir}, {master, "lf", "n/", api.ErrNotDir}, {master, "f", "ln/", api.ErrNotDir}, {guest, "f", "n/", api.ErrNotDir},
		{guest, "f", "n", api.ErrPerm}, {guest, "f", "open/f", api.ErrPerm}, {guest, "open/all", "n", api.ErrPerm}, {guest, "open/all", "f", api.ErrPerm}, {guest, "z", "n", api.ErrPerm}, {guest, "kept/k", "open/all", api.ErrPerm}, {guest, "open/all", "kept/k", api.ErrPerm}, {guest, "kept/e", "open/e", api.ErrPerm}, {owner, "o/sub", "kept/e", api.ErrPerm}, {owner, "o/mine", "d/mine", api.ErrPerm},
	} {
		refused(t, x, by(c.e, rename(c.path, c.other)), c.err)
	}
	for _, c := range []api.Call{
		by(guest, rename("open/all", "open/safe")), by(owner, rename("o/mine", "open/all")), by(owner, rename("o/sub", "open/sub")), by(owner, rename("open/safe", "o/mine")),
		by(in(master, nE), rename("/d", "/n")), by(in(master, nZ), rename("/z", "/d/z")), by(master, rename("f", "ld")), by(master, rename("loop", "f")), by(master, rename("z", "d/e")), by(master, rename("ld/", "z")), by(master, rename("d", "n/")),
	} {
		done(t, x, c)
	}
}

// under: what is told of a node and of all that is in it, each by its path.
func under(x api.Tree, path string) []string {
	s, err := calls.Stat(x, api.Env{Dir: 1}, path, false)
	if err != api.OK {
		return []string{"none"}
	}
	out := []string{nodeText(x.Nodes[s.Node])}
	if s.Kind != api.NoDir {
		return out
	}
	out = []string{"a directory"}
	for _, e := range x.Nodes[s.Node].List {
		for _, line := range under(x, path+"/"+e.Name) {
			out = append(out, e.Name+": "+line)
		}
	}
	return out
}

// P0.3: what was moved is the same, elsewhere, and is not where it was.
func TestMoved(t *testing.T) {
	x := done(t, sample(), by(master, mkdir("d/e/i")), by(master, write("d/e/i/j", "deep")))
	for _, c := range [][2]string{{"/d", "/n"}, {"/d", "/z/d"}, {"/d", "/z"}, {"/d/e", "/e"}, {"/d/e/i", "/i"}, {"/f", "/d/e/f"}, {"/lf", "/d/lf"}, {"/o", "/d/e/i/o"}, {"/d/g", "/f"}} {
		was := under(x, c[0])
		y := done(t, x, by(master, rename(c[0], c[1])))
		if is := under(y, c[1]); !slices.Equal(is, was) {
			t.Errorf("%s to %s: %q, was %q", c[0], c[1], is, was)
		}
		if is := under(y, c[0]); !slices.Equal(is, []string{"none"}) {
			t.Errorf("%s to %s: still there: %q", c[0], c[1], is)
		}
		if back := done(t, y, by(master, rename(c[1], c[0]))); !slices.Equal(under(back, c[0]), was) {
			t.Errorf("%s to %s and back: %q", c[0], c[1], under(back, c[0]))
		}
	}
	if !tree.Check(x) {
		t.Error("the tree may not be")
	}
}
