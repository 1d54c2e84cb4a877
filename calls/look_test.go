package calls_test

import (
	"math"
	"reflect"
	"slices"
	"strings"
	"testing"

	"toolchest/api"
	"toolchest/calls"
	"toolchest/tree"
)

// looked: what Read, List, Stat followed and not, Readlink and Chdir answer of one path.
type looked struct {
	read, list, followed, stat, readlink, chdir api.Errno
}

func wantLook(t *testing.T, x api.Tree, e api.Env, path string, want looked) {
	t.Helper()
	was := whole(x)
	data, readErr := calls.Read(x, e, path)
	names, listErr := calls.List(x, e, path)
	followed, followedErr := calls.Stat(x, e, path, true)
	stat, statErr := calls.Stat(x, e, path, false)
	target, linkErr := calls.Readlink(x, e, path)
	dir, dirErr := calls.Chdir(x, e, path)
	if got := (looked{readErr, listErr, followedErr, statErr, linkErr, dirErr}); got != want {
		t.Errorf("%.60q by %d in %d: %+v, want %+v", path, e.User, e.Dir, got, want)
	}
	if readErr != api.OK && data != nil || listErr != api.OK && names != nil || followedErr != api.OK && followed != (api.Stat{}) || statErr != api.OK && stat != (api.Stat{}) || linkErr != api.OK && target != "" || dirErr != api.OK && dir != 0 {
		t.Errorf("%.60q: something beside an error", path)
	}
	if !reflect.DeepEqual(whole(x), was) {
		t.Fatalf("%.60q: the tree is changed", path)
	}
}

// P15.2: each of them, of files, directories, links and nothing, with each of its errors.
func TestLooks(t *testing.T) {
	const (
		ok, none, isDir, notDir, perm, arg = api.OK, api.ErrNone, api.ErrDir, api.ErrNotDir, api.ErrPerm, api.ErrArg
	)
	all := func(err api.Errno) looked { return looked{err, err, err, err, err, err} }
	aDir := looked{isDir, ok, ok, ok, arg, ok}
	aFile := looked{ok, notDir, ok, ok, arg, notDir}
	x := sample()
	for _, c := range []struct {
		e    api.Env
		path string
		want looked
	}{
		{master, "", all(none)}, {master, "x/y", all(none)}, {master, "n", all(none)}, {master, "n/", all(none)}, {master, "d/n", all(none)}, {master, "ln/", all(none)}, {master, "ln/x", all(none)}, {guest, "n", all(none)},
		{master, "f/x", all(notDir)}, {master, "f/", all(notDir)}, {master, "lf/", all(notDir)}, {master, "f/.", all(notDir)},
		{master, "loop/x", all(api.ErrLoop)}, {master, "loop/", all(api.ErrLoop)},
		{master, "a\x00", all(api.ErrName)}, {master, strings.Repeat("n", 65), all(api.ErrName)}, {master, strings.Repeat("/", 1025), all(api.ErrName)},
		{guest, "shut/in", all(perm)}, {guest, "shut/n", all(perm)}, {in(guest, nShut), "in", all(perm)}, {in(guest, nShut), "..", all(perm)},
		{master, "/", aDir}, {master, ".", aDir}, {master, "..", aDir}, {master, "d", aDir}, {master, "d/", aDir}, {master, "d/.", aDir}, {master, "z", aDir}, {master, "ld/", aDir}, {master, "ld/.", aDir}, {master, "shut", aDir}, {guest, "d", aDir}, {in(master, nD), "e", aDir},
		{master, "f", aFile}, {master, "d/g", aFile}, {master, "ld/h", aFile}, {in(master, nE), "../g", aFile}, {master, "shut/in", aFile}, {guest, "f", aFile}, {owner, "o/mine", aFile}, {master, "o/mine", aFile},
		{master, "lf", looked{ok, notDir, ok, ok, ok, notDir}}, {guest, "lf", looked{ok, notDir, ok, ok, ok, notDir}},
		{master, "ld", looked{isDir, ok, ok, ok, ok, ok}},
		{master, "ln", looked{none, none, none, ok, ok, none}},
		{master, "loop", looked{api.ErrLoop, api.ErrLoop, api.ErrLoop, ok, ok, api.ErrLoop}},
		{guest, "o/mine", looked{perm, notDir, ok, ok, arg, notDir}},
		{guest, "shut", looked{isDir, perm, ok, ok, arg, perm}}, {guest, "shut/", looked{isDir, perm, ok, ok, arg, perm}},
	} {
		wantLook(t, x, c.e, c.path, c.want)
	}
	for mode := range 8 {
		x.Nodes[nZ].Mode, x.Nodes[nF].Mode = mode, mode
		d, f := looked{isDir, perm, ok, ok, arg, perm}, looked{perm, notDir, ok, ok, arg, notDir}
		if mode&4 != 0 {
			d.list, f.read = ok, ok
		}
		if mode&1 != 0 {
			d.chdir = ok
		}
		wantLook(t, x, guest, "z", d)
		wantLook(t, x, guest, "f", f)
		wantLook(t, x, master, "z", aDir)
		wantLook(t, x, master, "f", aFile)
	}
}

// P15.2: what they answer.
func TestLookAnswers(t *testing.T) {
	x := sample()
	for path, want := range map[string]string{"f": "hello", "lf": "hello", "d/g": "there", "d/h": "there", "ld/g": "there", "shut/in": "in"} {
		if got, err := calls.Read(x, master, path); string(got) != want || err != api.OK {
			t.Errorf("Read(%q): %q %d", path, got, err)
		}
	}
	for path, want := range map[string]string{"/": "d f kept ld lf ln loop o open shut z", ".": "d f kept ld lf ln loop o open shut z", "d": "e g h", "ld": "e g h", "ld/": "e g h", "z": "", "o/sub/..": "mine sub"} {
		if got, err := calls.List(x, master, path); strings.Join(got, " ") != want || err != api.OK {
			t.Errorf("List(%q): %q %d", path, got, err)
		}
	}
	for path, want := range map[string][2]int{"/": {1, 1}, "..": {1, 1}, "f": {nF, nF}, "lf": {nF, nLF}, "ld": {nD, nLD}, "ld/": {nD, nD}, "d/h": {nG, nG}, "o/mine": {nMine, nMine}, "ld/e/..": {nD, nD}} {
		for i, follow := range []bool{true, false} {
			told, _ := tree.Stat(x, want[i])
			if got, err := calls.Stat(x, master, path, follow); got != told || err != api.OK || got.Node != want[i] {
				t.Errorf("Stat(%q, %v): %+v %d", path, follow, got, err)
			}
		}
	}
	for path, want := range map[string]string{"lf": "f", "ld": "d", "ln": "nothing", "loop": "loop", "d/../lf": "f"} {
		if got, err := calls.Readlink(x, guest, path); got != want || err != api.OK {
			t.Errorf("Readlink(%q): %q %d", path, got, err)
		}
	}
	for path, want := range map[string]int{"/": 1, ".": nE, "..": nD, "../..": 1, "../../ld": nD, "/ld/": nD, "/z": nZ} {
		if got, err := calls.Chdir(x, in(guest, nE), path); got != want || err != api.OK {
			t.Errorf("Chdir(%q): %d %d", path, got, err)
		}
	}
}

// P15.3: the word of each error, and of what is none.
func TestWord(t *testing.T) {
	words := map[api.Errno]string{
		1: "invalid argument", 3: "too deep", 6: "no such file or directory", 7: "file exists", 8: "is a directory", 9: "not a directory", 10: "permission denied", 11: "no space left", 12: "too many links", 13: "name too long", 14: "directory not empty", 15: "directory into itself", 17: "file too large",
	}
	for e := api.Errno(-300); e < 300; e++ {
		want, ok := words[e]
		if !ok {
			want = "error"
		}
		if got := calls.Word(e); got != want {
			t.Errorf("Word(%d): %q, want %q", e, got, want)
		}
	}
	for _, e := range []api.Errno{math.MaxInt, math.MinInt, 1 << 32, 1<<32 + 1, -1 << 32} {
		if got := calls.Word(e); got != "error" {
			t.Errorf("Word(%d): %q", e, got)
		}
	}
}

// R4: what is answered is new memory, and what is handed in is not kept.
func TestLooksShareNothing(t *testing.T) {
	x := sample()
	was := whole(x)
	a, _ := calls.Read(x, master, "f")
	b, _ := calls.Read(x, master, "f")
	for i := range a[:cap(a)] {
		a[:cap(a)][i] = 'x'
	}
	c, _ := calls.List(x, master, "d")
	d, _ := calls.List(x, master, "d")
	for i := range c[:cap(c)] {
		c[:cap(c)][i] = "x"
	}
	if !reflect.DeepEqual(whole(x), was) || string(b) != "hello" || !slices.Equal(d, []string{"e", "g", "h"}) {
		t.Error("answers share memory")
	}
	x.Nodes[nF].Data[0], x.Nodes[nD].List[0].Name = 'x', "x"
	if string(b) != "hello" || !slices.Equal(d, []string{"e", "g", "h"}) {
		t.Error("an answer is changed by what is handed in")
	}
}
