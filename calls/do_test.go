package calls_test

import (
	"math"
	"strings"
	"testing"

	"toolchest/api"
	"toolchest/calls"
	"toolchest/tree"
)

// P15.1, P15.2: the chapter's examples.
func TestExamples(t *testing.T) {
	e, r := api.Env{User: 5, Dir: 1}, api.Env{Dir: 1}
	refused(t, tree.New(), by(e, write("a", "")), api.ErrPerm)
	x := done(t, tree.New(), by(r, api.Call{Kind: api.CaWrite, Path: "a", Mode: 420, Data: []byte("hi")}))
	if s, err := tree.Stat(x, 2); err != api.OK || s.Kind != api.NoFile || s.Size != 2 || s.Mode != 420 {
		t.Errorf("a: %+v %d", s, err)
	}
	if b, err := calls.Read(x, e, "/a"); string(b) != "hi" || err != api.OK {
		t.Errorf("Read: %q %d", b, err)
	}
	refused(t, x, by(e, write("a", "")), api.ErrPerm)
	refused(t, x, by(r, mkdir("a")), api.ErrThere)
	if names, err := calls.List(done(t, x, by(r, rename("a", "b"))), r, "/"); strings.Join(names, " ") != "b" || err != api.OK {
		t.Errorf("List: %q %d", names, err)
	}
	refused(t, x, by(r, link("a", "a")), api.ErrThere)
}

// each: a call of each kind that is done on the sample, with the letters of the fields that it has: Path, Other, Mode, User and Group, Time, Data.
func each() map[api.CallKind]struct {
	c   api.Call
	has string
} {
	return map[api.CallKind]struct {
		c   api.Call
		has string
	}{
		api.CaWrite:   {write("f", "x"), "pmd"},
		api.CaAppend:  {lengthen("f", "x"), "pmd"},
		api.CaMkdir:   {mkdir("n"), "pm"},
		api.CaRmdir:   {rmdir("z"), "p"},
		api.CaUnlink:  {unlink("f"), "p"},
		api.CaLink:    {link("f", "n"), "po"},
		api.CaSymlink: {symlink("f", "n"), "po"},
		api.CaRename:  {rename("f", "n"), "po"},
		api.CaChmod:   {chmod("f", 1), "pm"},
		api.CaChown:   {chown("f", 1, 1), "pu"},
		api.CaTouch:   {touch("f", 1), "pt"},
		api.CaTick:    {tick(1), "t"},
	}
}

// P15.1: a call that has a field more than its kind has may not be.
func TestFieldsOfKinds(t *testing.T) {
	for kind, k := range each() {
		done(t, sample(), by(master, k.c))
		empty := k.c
		if empty.Data == nil {
			empty.Data = []byte{}
		}
		done(t, sample(), by(master, empty))
		for _, f := range []struct {
			letter string
			spoil  func(c *api.Call)
		}{
			{"p", func(c *api.Call) { c.Path = "f" }}, {"p", func(c *api.Call) { c.Path = "\x00" }},
			{"o", func(c *api.Call) { c.Other = "n" }}, {"o", func(c *api.Call) { c.Other = "/" }},
			{"m", func(c *api.Call) { c.Mode = 1 }}, {"m", func(c *api.Call) { c.Mode = 511 }},
			{"u", func(c *api.Call) { c.User = 1 }}, {"u", func(c *api.Call) { c.User = -1 }},
			{"u", func(c *api.Call) { c.Group = 1 }}, {"u", func(c *api.Call) { c.Group = -1 }},
			{"t", func(c *api.Call) { c.Time = 1 }}, {"t", func(c *api.Call) { c.Time = api.MaxTime }},
			{"d", func(c *api.Call) { c.Data = []byte{0} }}, {"d", func(c *api.Call) { c.Data = []byte("data") }},
		} {
			c := by(master, k.c)
			f.spoil(&c)
			_, err := do(t, sample(), c)
			if has := strings.Contains(k.has, f.letter); has == (err == api.ErrArg) {
				t.Errorf("the kind %d with its field %s: %d", kind, f.letter, err)
			}
		}
		c := by(master, k.c)
		c.Time = -1
		if _, err := do(t, sample(), c); (err == api.OK) != (kind == api.CaTouch) {
			t.Errorf("the kind %d with Time -1: %d", kind, err)
		}
	}
}

// P15.1: kinds that are none; numbers that are just allowed, and those beyond. ErrArg comes ahead of what is wrong with a path.
func TestNumbersOfCalls(t *testing.T) {
	for _, kind := range []api.CallKind{0, 13, 14, 100, 128, 255} {
		refused(t, sample(), api.Call{Kind: kind, Env: master}, api.ErrArg)
		refused(t, sample(), api.Call{Kind: kind, Path: "f", Env: master}, api.ErrArg)
	}
	for _, path := range []string{"f", "x/y", "", "loop", "\x00", strings.Repeat("n", 2000)} {
		for _, n := range []int{-1, 512, -512, 1 << 20, math.MaxInt, math.MinInt} {
			for _, kind := range []api.CallKind{api.CaWrite, api.CaAppend, api.CaMkdir, api.CaChmod} {
				refused(t, sample(), api.Call{Kind: kind, Path: path, Mode: n, Env: master}, api.ErrArg)
			}
		}
		for _, n := range []int{-2, 65536, 1 << 32, 1<<32 + 5, math.MaxInt, math.MinInt} {
			refused(t, sample(), by(master, chown(path, n, 0)), api.ErrArg)
			refused(t, sample(), by(master, chown(path, 0, n)), api.ErrArg)
			refused(t, sample(), by(master, chown(path, -1, n)), api.ErrArg)
		}
		for _, n := range []int{-2, api.MaxTime + 1, math.MaxInt, math.MinInt} {
			refused(t, sample(), by(master, touch(path, n)), api.ErrArg)
		}
	}
	for _, n := range []int{-1, -2, api.MaxTime + 1, math.MaxInt, math.MinInt} {
		refused(t, sample(), by(master, tick(n)), api.ErrArg)
	}
	for _, n := range []int{0, 1, 0o777} {
		done(t, sample(), by(master, chmod("f", n)), by(master, api.Call{Kind: api.CaMkdir, Path: "n", Mode: n}), by(master, api.Call{Kind: api.CaWrite, Path: "m", Mode: n}), by(master, api.Call{Kind: api.CaAppend, Path: "p", Mode: n}))
	}
	for _, n := range []int{-1, 0, 65535} {
		done(t, sample(), by(master, chown("f", n, 0)), by(master, chown("f", 0, n)), by(master, chown("f", n, n)))
	}
	for _, n := range []int{-1, 0, api.MaxTime} {
		done(t, sample(), by(master, touch("f", n)))
	}
	for _, n := range []int{0, api.MaxTime} {
		done(t, sample(), by(master, tick(n)))
	}
}

// badTrees: such as may not be.
func badTrees() []api.Tree {
	var out []api.Tree
	for _, spoil := range []func(x *api.Tree){
		func(x *api.Tree) { x.Nodes = nil },
		func(x *api.Tree) { x.Nodes = x.Nodes[:1] },
		func(x *api.Tree) { x.Nodes = append(x.Nodes, api.Node{}) },
		func(x *api.Tree) { x.Now = -1 },
		func(x *api.Tree) { x.Now = api.MaxTime + 1 },
		func(x *api.Tree) { x.Nodes[0].Mode = 1 },
		func(x *api.Tree) { x.Nodes[nRoot].Links++ },
		func(x *api.Tree) { x.Nodes[nRoot].Kind = api.NoFile },
		func(x *api.Tree) { x.Nodes[nF].Links = 0 },
		func(x *api.Tree) { x.Nodes[nF].Data = make([]byte, 65537) },
		func(x *api.Tree) { x.Nodes[nF].Kind = 9 },
		func(x *api.Tree) { x.Nodes[nE].Parent = math.MaxInt },
		func(x *api.Tree) { x.Nodes[nD].List[0].Node = -1 },
		func(x *api.Tree) { x.Nodes[nD].List[0].Node = 1 << 40 },
		func(x *api.Tree) { x.Nodes[nD].List[0].Name = "" },
		func(x *api.Tree) { x.Nodes[nLF].Target = "" },
		func(x *api.Tree) { x.Nodes[nZ] = api.Node{} },
	} {
		x := sample()
		spoil(&x)
		out = append(out, x)
	}
	return out
}

// P15.1, P15.2: a tree that may not be, and nobody such: ErrArg.
func TestNobody(t *testing.T) {
	wantArg := func(x api.Tree, e api.Env) {
		t.Helper()
		for _, k := range each() {
			refused(t, x, by(e, k.c), api.ErrArg)
			missing := k.c
			if missing.Path != "" {
				missing.Path = "x/y"
			}
			refused(t, x, by(e, missing), api.ErrArg)
		}
		for _, path := range []string{"f", "", "x/y", "loop", "\x00"} {
			wantLook(t, x, e, path, looked{api.ErrArg, api.ErrArg, api.ErrArg, api.ErrArg, api.ErrArg, api.ErrArg})
		}
	}
	for i, x := range badTrees() {
		if tree.Check(x) {
			t.Errorf("the tree %d may be", i)
		}
		wantArg(x, master)
	}
	for _, e := range []api.Env{
		{}, {Dir: -1}, {Dir: nF}, {Dir: nLD}, {Dir: 1000}, {Dir: math.MaxInt}, {Dir: math.MinInt},
		{Dir: 1, User: -1}, {Dir: 1, User: 65536}, {Dir: 1, Group: -1}, {Dir: 1, Group: 65536}, {Dir: 1, Mask: -1}, {Dir: 1, Mask: 512},
	} {
		wantArg(sample(), e)
	}
}

// small: d with a file a in it, a file b, a link l to b, at the time 9.
func small() api.Tree {
	t := tree.New()
	t.Now = 9
	add(&t, 1, "d", dirOf(0o755))
	add(&t, 2, "a", fileOf("aa"))
	add(&t, 1, "b", fileOf("bbb"))
	add(&t, 1, "l", linkTo("b"))
	return t
}

// P15.1, CaWrite: new files with the mask's bits off, files that are there, through links too; only a directory into which a name comes has another time.
func TestWrite(t *testing.T) {
	wantChanges(t, small(), by(master, write("n", "new")), "1 dir 755 0 0 3 9 ^1 b=4 d=2 l=5 n=6; 6 file 644 0 0 1 9 new")
	wantChanges(t, small(), by(master, write("d/c", "")), "2 dir 755 0 0 2 9 ^1 a=3 c=6; 6 file 644 0 0 1 9")
	wantChanges(t, small(), by(in(master, 2), write("0", "x")), "2 dir 755 0 0 2 9 ^1 0=6 a=3; 6 file 644 0 0 1 9 x")
	wantChanges(t, small(), by(api.Env{Dir: 1}, write("n", "")), "1 dir 755 0 0 3 9 ^1 b=4 d=2 l=5 n=6; 6 file 666 0 0 1 9")
	wantChanges(t, small(), by(api.Env{Mask: 0o777, Dir: 1}, write("n", "")), "1 dir 755 0 0 3 9 ^1 b=4 d=2 l=5 n=6; 6 file 0 0 0 1 9")
	wantChanges(t, small(), by(master, api.Call{Kind: api.CaWrite, Path: "n", Mode: 0o731}), "1 dir 755 0 0 3 9 ^1 b=4 d=2 l=5 n=6; 6 file 711 0 0 1 9")
	wantChanges(t, small(), by(master, write("b", "other")), "4 file 644 0 0 1 9 other")
	wantChanges(t, small(), by(master, write("b", "")), "4 file 644 0 0 1 9")
	wantChanges(t, small(), by(master, write("d/../d/./a", "x")), "3 file 644 0 0 1 9 x")
	wantChanges(t, small(), by(master, write("l", "x")), "4 file 644 0 0 1 9 x")
	dangling := small()
	dangling.Nodes[5].Target = "d/c"
	wantChanges(t, dangling, by(master, write("l", "x")), "2 dir 755 0 0 2 9 ^1 a=3 c=6; 6 file 644 0 0 1 9 x")
	dangling.Nodes[5].Target = "d/c/"
	refused(t, dangling, by(master, write("l", "x")), api.ErrDir)
	open := small()
	open.Nodes[1].Mode = 0o777
	wantChanges(t, open, by(owner, write("n", "x")), "1 dir 777 0 0 3 9 ^1 b=4 d=2 l=5 n=6; 6 file 644 5 7 1 9 x")
	wantChanges(t, open, by(guest, write("n", "x")), "1 dir 777 0 0 3 9 ^1 b=4 d=2 l=5 n=6; 6 file 666 6 8 1 9 x")
}

// P15.1, CaAppend: likewise, behind what it was.
func TestAppend(t *testing.T) {
	wantChanges(t, small(), by(master, lengthen("n", "new")), "1 dir 755 0 0 3 9 ^1 b=4 d=2 l=5 n=6; 6 file 644 0 0 1 9 new")
	wantChanges(t, small(), by(master, lengthen("b", "x")), "4 file 644 0 0 1 9 bbbx")
	wantChanges(t, small(), by(master, lengthen("l", "xy")), "4 file 644 0 0 1 9 bbbxy")
	wantChanges(t, small(), by(master, lengthen("b", "")), "4 file 644 0 0 1 9 bbb")
	x := done(t, small(), by(master, lengthen("n", "1")), by(master, lengthen("n", "23")), by(master, lengthen("n", "")), by(master, lengthen("n", "4")))
	if b, err := calls.Read(x, master, "n"); string(b) != "1234" || err != api.OK {
		t.Errorf("n: %q %d", b, err)
	}
}

// P15.1: what refuses CaWrite and CaAppend, in order.
func TestWriteRefused(t *testing.T) {
	x := sample()
	big := strings.Repeat("x", 65537)
	for _, of := range []func(p, s string) api.Call{write, lengthen} {
		for _, c := range []struct {
			e    api.Env
			path string
			data string
			err  api.Errno
		}{
			{master, "", "", api.ErrNone}, {master, "x/y", big, api.ErrNone}, {master, "f/y", big, api.ErrNotDir}, {master, "f/", big, api.ErrNotDir}, {master, "lf/", big, api.ErrNotDir}, {master, "loop", big, api.ErrLoop}, {owner, "shut/in", big, api.ErrPerm}, {master, strings.Repeat("n", 65), big, api.ErrName}, {master, "a\x00", big, api.ErrName},
			{master, "f", big, api.ErrBig}, {master, "n", big, api.ErrBig}, {master, "d", big, api.ErrBig}, {master, "/", big, api.ErrBig}, {master, "n/", big, api.ErrBig}, {guest, "f", big, api.ErrBig}, {guest, "n", big, api.ErrBig},
			{master, "/", "", api.ErrDir}, {master, ".", "", api.ErrDir}, {master, "..", "", api.ErrDir}, {master, "d/.", "", api.ErrDir}, {master, "d/..", "", api.ErrDir}, {master, "d", "", api.ErrDir}, {master, "d/", "", api.ErrDir}, {master, "ld", "", api.ErrDir}, {master, "ld/", "", api.ErrDir}, {master, "n/", "", api.ErrDir}, {master, "ln/", "", api.ErrDir},
			{guest, "/", "", api.ErrDir}, {guest, "d", "", api.ErrDir}, {guest, "n/", "", api.ErrDir}, {guest, "d/n/", "", api.ErrDir},
			{guest, "f", "", api.ErrPerm}, {guest, "lf", "", api.ErrPerm}, {owner, "f", "x", api.ErrPerm}, {guest, "n", "", api.ErrPerm}, {guest, "d/n", "", api.ErrPerm}, {guest, "ln", "", api.ErrPerm}, {guest, "o/mine", "", api.ErrPerm}, {guest, "o/n", "", api.ErrPerm}, {guest, "open/safe", "", api.ErrPerm}, {guest, "kept/n", "", api.ErrPerm},
		} {
			refused(t, x, by(c.e, of(c.path, c.data)), c.err)
		}
		for _, c := range []api.Call{by(guest, of("open/all", "x")), by(guest, of("open/n", "x")), by(guest, of("kept/k", "x")), by(owner, of("o/mine", "x")), by(owner, of("o/n", "x")), by(master, of("o/mine", "x")), by(master, of("shut/in", "x")), by(master, of("ln", "x"))} {
			done(t, x, c)
		}
	}
}

// P15.1, CaMkdir: a new directory; that in which it is has one link more.
func TestMkdir(t *testing.T) {
	wantChanges(t, small(), by(master, mkdir("c")), "1 dir 755 0 0 4 9 ^1 b=4 c=6 d=2 l=5; 6 dir 755 0 0 2 9 ^1")
	wantChanges(t, small(), by(master, mkdir("d/c//")), "2 dir 755 0 0 3 9 ^1 a=3 c=6; 6 dir 755 0 0 2 9 ^2")
	wantChanges(t, small(), by(in(master, 2), mkdir("../c")), "1 dir 755 0 0 4 9 ^1 b=4 c=6 d=2 l=5; 6 dir 755 0 0 2 9 ^1")
	wantChanges(t, small(), by(master, api.Call{Kind: api.CaMkdir, Path: "c", Mode: 0o533}), "1 dir 755 0 0 4 9 ^1 b=4 c=6 d=2 l=5; 6 dir 511 0 0 2 9 ^1")
	wantChanges(t, small(), by(api.Env{Mask: 0o777, Dir: 1}, mkdir("c")), "1 dir 755 0 0 4 9 ^1 b=4 c=6 d=2 l=5; 6 dir 0 0 0 2 9 ^1")
	open := small()
	open.Nodes[1].Mode = 0o777
	open.Nodes[5].Target = "c"
	wantChanges(t, open, by(owner, mkdir("l/")), "1 dir 777 0 0 4 9 ^1 b=4 c=6 d=2 l=5; 6 dir 755 5 7 2 9 ^1")
	x := sample()
	for _, c := range []struct {
		e    api.Env
		path string
		err  api.Errno
	}{
		{master, "", api.ErrNone}, {master, "x/y", api.ErrNone}, {master, "f/y", api.ErrNotDir}, {master, "f/", api.ErrNotDir}, {master, "loop/", api.ErrLoop}, {master, "loop/x", api.ErrLoop}, {guest, "shut/x", api.ErrPerm}, {master, strings.Repeat("n", 65), api.ErrName},
		{master, "/", api.ErrThere}, {master, ".", api.ErrThere}, {master, "..", api.ErrThere}, {master, "d/.", api.ErrThere}, {master, "d", api.ErrThere}, {master, "d/", api.ErrThere}, {master, "f", api.ErrThere}, {master, "lf", api.ErrThere}, {master, "ld", api.ErrThere}, {master, "ln", api.ErrThere}, {master, "loop", api.ErrThere}, {master, "ld/", api.ErrThere},
		{guest, "/", api.ErrThere}, {guest, "d", api.ErrThere}, {guest, "f", api.ErrThere}, {guest, "shut", api.ErrThere},
		{guest, "n", api.ErrPerm}, {guest, "n/", api.ErrPerm}, {guest, "d/n", api.ErrPerm}, {guest, "o/n", api.ErrPerm}, {owner, "n", api.ErrPerm},
	} {
		refused(t, x, by(c.e, mkdir(c.path)), c.err)
	}
	done(t, x, by(guest, mkdir("open/n")), by(owner, mkdir("o/n/")), by(master, mkdir("shut/n")))
}

// P15.1, CaRmdir: what is removed is free; if it stood last, what is free ahead of it goes, too.
func TestRmdir(t *testing.T) {
	x := done(t, small(), by(master, mkdir("c")))
	x.Nodes[6].Mode = 0
	wantChanges(t, done(t, x, by(master, tick(1))), by(master, rmdir("c")), "1 dir 755 0 0 3 10 ^1 b=4 d=2 l=5; 6 gone")
	wantChanges(t, x, by(in(master, 2), rmdir("/c//")), "1 dir 755 0 0 3 9 ^1 b=4 d=2 l=5; 6 gone")
	y := done(t, x, by(master, unlink("d/a")), by(master, tick(1)))
	wantChanges(t, y, by(master, rmdir("d")), "1 dir 755 0 0 3 10 ^1 b=4 c=6 l=5; 2 none 0 0 0 0 0")
	y = done(t, y, by(master, rmdir("d")), by(master, unlink("l")), by(master, unlink("b")))
	wantChanges(t, y, by(master, rmdir("c")), "1 dir 755 0 0 2 10 ^1; 2 gone; 3 gone; 4 gone; 5 gone; 6 gone")
	x = sample()
	for _, c := range []struct {
		e    api.Env
		path string
		err  api.Errno
	}{
		{master, "", api.ErrNone}, {master, "x/y", api.ErrNone}, {master, "f/", api.ErrNotDir}, {master, "loop/", api.ErrLoop}, {guest, "shut/in", api.ErrPerm},
		{master, "/", api.ErrBusy}, {master, ".", api.ErrBusy}, {master, "..", api.ErrBusy}, {master, "z/.", api.ErrBusy}, {master, "z/..", api.ErrBusy}, {guest, "z/.", api.ErrBusy},
		{master, "n", api.ErrNone}, {master, "n/", api.ErrNone}, {guest, "n", api.ErrNone}, {master, "ln/", api.ErrNone},
		{master, "f", api.ErrNotDir}, {master, "lf", api.ErrNotDir}, {master, "ld", api.ErrNotDir}, {master, "ln", api.ErrNotDir}, {master, "loop", api.ErrNotDir}, {guest, "f", api.ErrNotDir},
		{master, "d", api.ErrBusy}, {master, "d/", api.ErrBusy}, {guest, "d", api.ErrBusy}, {master, "ld/", api.ErrBusy}, {in(master, nZ), "/z", api.ErrBusy}, {in(master, nZ), "../z", api.ErrBusy}, {in(guest, nZ), "/z", api.ErrBusy}, {in(master, nE), "/d/e", api.ErrBusy},
		{guest, "z", api.ErrPerm}, {guest, "d/e", api.ErrPerm}, {guest, "o/sub", api.ErrPerm}, {guest, "kept/e", api.ErrPerm}, {owner, "z", api.ErrPerm},
	} {
		refused(t, x, by(c.e, rmdir(c.path)), c.err)
	}
	done(t, x, by(master, rmdir("z")), by(owner, rmdir("o/sub/")), by(in(master, nD), rmdir("e")))
	wantChanges(t, done(t, x, by(master, symlink("d/e", "le"))), by(master, rmdir("le/")), "2 dir 755 0 0 2 9 ^1 g=4 h=4; 3 none 0 0 0 0 0")
}

// P15.1, CaUnlink: a name goes; the node, when it has none any more.
func TestUnlink(t *testing.T) {
	wantChanges(t, small(), by(master, unlink("d/a")), "2 dir 755 0 0 2 9 ^1; 3 none 0 0 0 0 0")
	wantChanges(t, small(), by(master, unlink("l")), "1 dir 755 0 0 3 9 ^1 b=4 d=2; 5 gone")
	wantChanges(t, done(t, small(), by(master, unlink("b"))), by(master, unlink("l")), "1 dir 755 0 0 3 9 ^1 d=2; 4 gone; 5 gone")
	two := done(t, small(), by(master, link("b", "d/b")))
	wantChanges(t, two, by(master, unlink("b")), "1 dir 755 0 0 3 9 ^1 d=2 l=5; 4 file 644 0 0 1 3 bbb")
	wantChanges(t, two, by(master, unlink("d/b")), "2 dir 755 0 0 2 9 ^1 a=3; 4 file 644 0 0 1 3 bbb")
	x := sample()
	for _, c := range []struct {
		e    api.Env
		path string
		err  api.Errno
	}{
		{master, "", api.ErrNone}, {master, "x/y", api.ErrNone}, {master, "f/", api.ErrNotDir}, {master, "lf/", api.ErrNotDir}, {master, "loop/", api.ErrLoop}, {guest, "shut/in", api.ErrPerm},
		{master, "/", api.ErrDir}, {master, ".", api.ErrDir}, {master, "..", api.ErrDir}, {master, "d/..", api.ErrDir}, {guest, "/", api.ErrDir},
		{master, "n", api.ErrNone}, {master, "n/", api.ErrNone}, {guest, "n", api.ErrNone}, {master, "ln/", api.ErrNone},
		{master, "d", api.ErrDir}, {master, "z", api.ErrDir}, {master, "z/", api.ErrDir}, {master, "ld/", api.ErrDir}, {guest, "d", api.ErrDir},
		{guest, "f", api.ErrPerm}, {guest, "lf", api.ErrPerm}, {guest, "o/mine", api.ErrPerm}, {guest, "kept/k", api.ErrPerm}, {owner, "f", api.ErrPerm},
	} {
		refused(t, x, by(c.e, unlink(c.path)), c.err)
	}
	done(t, x, by(master, unlink("ld")), by(master, unlink("ln")), by(master, unlink("loop")), by(guest, unlink("open/safe")), by(owner, unlink("o/mine")), by(in(master, nShut), unlink("in")))
}

// P15.1, CaLink: one name more. A link at the end of Path gets it itself.
func TestLink(t *testing.T) {
	wantChanges(t, small(), by(master, link("b", "d/b")), "2 dir 755 0 0 2 9 ^1 a=3 b=4; 4 file 644 0 0 2 3 bbb")
	wantChanges(t, small(), by(master, link("b", "a")), "1 dir 755 0 0 3 9 ^1 a=4 b=4 d=2 l=5; 4 file 644 0 0 2 3 bbb")
	wantChanges(t, small(), by(master, link("l", "k")), "1 dir 755 0 0 3 9 ^1 b=4 d=2 k=5 l=5; 5 link 777 0 0 2 3 b")
	wantChanges(t, small(), by(in(master, 2), link("../b", "b")), "2 dir 755 0 0 2 9 ^1 a=3 b=4; 4 file 644 0 0 2 3 bbb")
	x := sample()
	for _, c := range []struct {
		e           api.Env
		path, other string
		err         api.Errno
	}{
		{master, "", "n", api.ErrNone}, {master, "f", "", api.ErrNone}, {master, "x/y", "loop/x", api.ErrNone}, {master, "d", "loop/x", api.ErrLoop}, {master, "/", "f/x", api.ErrNotDir}, {master, "n", "f/x", api.ErrNotDir}, {master, "f/", "x/y", api.ErrNotDir}, {guest, "shut/in", "x/y", api.ErrPerm}, {guest, "f", "shut/n", api.ErrPerm}, {master, "f", strings.Repeat("n", 65), api.ErrName},
		{master, "/", "f", api.ErrDir}, {master, ".", "n", api.ErrDir}, {master, "d/..", "n", api.ErrDir}, {guest, ".", "n", api.ErrDir},
		{master, "n", "m", api.ErrNone}, {master, "n", "f", api.ErrNone}, {guest, "n", "m", api.ErrNone}, {master, "n/", "m", api.ErrNone},
		{master, "d", "n", api.ErrDir}, {master, "d", "f", api.ErrDir}, {master, "d", "n/", api.ErrDir}, {guest, "d", "n", api.ErrDir}, {master, "ld/", "n", api.ErrDir},
		{master, "f", "/", api.ErrThere}, {master, "f", ".", api.ErrThere}, {master, "f", "d/..", api.ErrThere}, {master, "f", "f", api.ErrThere}, {master, "f", "d", api.ErrThere}, {master, "f", "d/", api.ErrThere}, {master, "f", "lf", api.ErrThere}, {master, "f", "ln", api.ErrThere}, {master, "f", "d/g", api.ErrThere}, {guest, "f", "lf", api.ErrThere}, {guest, "f", "/", api.ErrThere}, {master, "f", "ld/", api.ErrThere},
		{master, "f", "n/", api.ErrNone}, {master, "f", "d/n//", api.ErrNone}, {guest, "f", "n/", api.ErrNone}, {master, "f", "ln/", api.ErrNone},
		{guest, "f", "n", api.ErrPerm}, {guest, "f", "d/n", api.ErrPerm}, {guest, "open/all", "kept/all", api.ErrPerm},
	} {
		refused(t, x, by(c.e, link(c.path, c.other)), c.err)
	}
	done(t, x, by(guest, link("f", "open/f")), by(guest, link("o/mine", "open/mine")), by(master, link("ln", "m")), by(master, link("d/g", "d/i")))
}

// P15.1, CaSymlink: any text from which a path may be is a target.
func TestSymlink(t *testing.T) {
	wantChanges(t, small(), by(master, symlink("x//y/", "d/c")), "2 dir 755 0 0 2 9 ^1 a=3 c=6; 6 link 777 0 0 1 9 x//y/")
	open := small()
	open.Nodes[1].Mode = 0o777
	wantChanges(t, open, by(api.Env{User: 5, Group: 7, Mask: 0o777, Dir: 2}, symlink("..", "../a")), "1 dir 777 0 0 3 9 ^1 a=6 b=4 d=2 l=5; 6 link 777 5 7 1 9 ..")
	x := sample()
	long := strings.Repeat("x", 1025)
	for _, c := range []struct {
		e           api.Env
		path, other string
		err         api.Errno
	}{
		{master, "", "", api.ErrNone}, {master, "f", "", api.ErrNone}, {master, "", "f/x", api.ErrNotDir}, {master, long, "x/y", api.ErrNone}, {master, "a\x00", "loop/x", api.ErrLoop}, {guest, "", "shut/x", api.ErrPerm}, {guest, "f", "shut/x", api.ErrPerm}, {master, "f", strings.Repeat("n", 65), api.ErrName},
		{master, "", "n", api.ErrNone}, {master, "", "f", api.ErrNone}, {guest, "", "n", api.ErrNone}, {master, "", "/", api.ErrNone},
		{master, long, "n", api.ErrName}, {master, long, "f", api.ErrName}, {master, long, "n/", api.ErrName}, {guest, long, "n", api.ErrName}, {master, "\x00", "n", api.ErrName}, {master, "a\x00b", "f", api.ErrName}, {master, long[1:] + "\x00", "n", api.ErrName}, {guest, "a\x00", "n", api.ErrName},
		{master, "f", "/", api.ErrThere}, {master, "f", "..", api.ErrThere}, {master, "f", "f", api.ErrThere}, {master, "f", "d", api.ErrThere}, {master, "f", "d/", api.ErrThere}, {master, "f", "ln", api.ErrThere}, {master, "f", "loop", api.ErrThere}, {guest, "f", "lf", api.ErrThere},
		{master, "f", "n/", api.ErrNone}, {guest, "f", "n/", api.ErrNone}, {master, "f", "ln/", api.ErrNone},
		{guest, "f", "n", api.ErrPerm}, {guest, "f", "d/n", api.ErrPerm},
	} {
		refused(t, x, by(c.e, symlink(c.path, c.other)), c.err)
	}
	for _, target := range []string{long[1:], "/", ".", "n", "nosuch/x", "\xff", " ", "loop", strings.Repeat("n", 65)} {
		y := done(t, x, by(master, symlink(target, "n")))
		if got, err := calls.Readlink(y, master, "n"); got != target || err != api.OK {
			t.Errorf("Readlink: %.80q %d", got, err)
		}
	}
	done(t, x, by(guest, symlink("f", "open/n")))
}

// P15.1, CaChmod: through links; of nameless paths, too.
func TestChmod(t *testing.T) {
	wantChanges(t, small(), by(master, chmod("b", 0o123)), "4 file 123 0 0 1 3 bbb")
	wantChanges(t, small(), by(master, chmod("l", 0)), "4 file 0 0 0 1 3 bbb")
	wantChanges(t, small(), by(master, chmod("d/", 0o777)), "2 dir 777 0 0 2 3 ^1 a=3")
	wantChanges(t, small(), by(master, chmod("/", 0)), "1 dir 0 0 0 3 0 ^1 b=4 d=2 l=5")
	wantChanges(t, small(), by(in(master, 2), chmod(".", 0o700)), "2 dir 700 0 0 2 3 ^1 a=3")
	wantChanges(t, sample(), by(owner, chmod("o/mine", 0)), "12 file 0 5 7 1 3 mine")
	wantChanges(t, sample(), by(owner, chmod("o/.", 0o111)), "11 dir 111 5 7 3 3 ^1 mine=12 sub=13")
	x := sample()
	for _, c := range []struct {
		e    api.Env
		path string
		err  api.Errno
	}{
		{master, "", api.ErrNone}, {master, "x/y", api.ErrNone}, {master, "f/", api.ErrNotDir}, {master, "loop", api.ErrLoop}, {guest, "shut/in", api.ErrPerm},
		{master, "n", api.ErrNone}, {master, "n/", api.ErrNone}, {master, "ln", api.ErrNone}, {guest, "n", api.ErrNone},
		{guest, "f", api.ErrPerm}, {guest, "lf", api.ErrPerm}, {guest, "/", api.ErrPerm}, {guest, "o/mine", api.ErrPerm}, {guest, "open/all", api.ErrPerm}, {guest, "open", api.ErrPerm}, {owner, "f", api.ErrPerm},
	} {
		refused(t, x, by(c.e, chmod(c.path, 0o644)), c.err)
	}
}

// P15.1, CaChown: -1 leaves what was. The user 0 may do all; who owns it may give it to a group of their own alone.
func TestChown(t *testing.T) {
	wantChanges(t, small(), by(master, chown("b", 5, 7)), "4 file 644 5 7 1 3 bbb")
	wantChanges(t, small(), by(master, chown("l", 5, -1)), "4 file 644 5 0 1 3 bbb")
	wantChanges(t, small(), by(master, chown("b", -1, 7)), "4 file 644 0 7 1 3 bbb")
	wantChanges(t, small(), by(master, chown("b", -1, -1)), "")
	wantChanges(t, sample(), by(master, chown("o/mine", 0, 0)), "12 file 600 0 0 1 3 mine")
	wantChanges(t, small(), by(master, chown("..", 65535, 65535)), "1 dir 755 65535 65535 3 0 ^1 b=4 d=2 l=5")
	x := sample()
	x.Nodes[nMine].Group = 9
	wantChanges(t, x, by(owner, chown("o/mine", -1, 7)), "12 file 600 5 7 1 3 mine")
	wantChanges(t, x, by(owner, chown("o/mine", 5, 7)), "12 file 600 5 7 1 3 mine")
	wantChanges(t, x, by(owner, chown("o/mine", 5, 9)), "")
	wantChanges(t, x, by(owner, chown("o/mine", -1, -1)), "")
	for _, c := range []struct {
		e           api.Env
		path        string
		user, group int
		err         api.Errno
	}{
		{master, "", 5, 7, api.ErrNone}, {master, "x/y", 5, 7, api.ErrNone}, {master, "f/", 5, 7, api.ErrNotDir}, {master, "loop", 5, 7, api.ErrLoop}, {guest, "shut/in", -1, -1, api.ErrPerm},
		{master, "n", 5, 7, api.ErrNone}, {master, "ln", 5, 7, api.ErrNone}, {guest, "n", 5, 7, api.ErrNone},
		{owner, "o/mine", 6, 7, api.ErrPerm}, {owner, "o/mine", 0, -1, api.ErrPerm}, {owner, "o/mine", -1, 8, api.ErrPerm}, {owner, "o/mine", 5, 0, api.ErrPerm}, {owner, "o/mine", 6, -1, api.ErrPerm},
		{guest, "f", -1, -1, api.ErrPerm}, {guest, "f", 0, 0, api.ErrPerm}, {guest, "f", -1, 8, api.ErrPerm}, {guest, "f", 6, -1, api.ErrPerm}, {guest, "open/all", 6, 8, api.ErrPerm}, {guest, "o/mine", 5, 9, api.ErrPerm},
		{owner, "f", 0, 7, api.ErrPerm}, {owner, "f", 5, 7, api.ErrPerm},
	} {
		refused(t, x, by(c.e, chown(c.path, c.user, c.group)), c.err)
	}
}

// P15.1, CaTouch: who owns it, and who may write it.
func TestTouch(t *testing.T) {
	wantChanges(t, small(), by(master, touch("b", 1)), "4 file 644 0 0 1 1 bbb")
	wantChanges(t, small(), by(master, touch("l", -1)), "4 file 644 0 0 1 9 bbb")
	wantChanges(t, small(), by(master, touch("b", 0)), "4 file 644 0 0 1 0 bbb")
	wantChanges(t, small(), by(master, touch("d", api.MaxTime)), "2 dir 755 0 0 2 1099511627775 ^1 a=3")
	wantChanges(t, small(), by(master, touch("/", -1)), "1 dir 755 0 0 3 9 ^1 b=4 d=2 l=5")
	x := sample()
	wantChanges(t, x, by(guest, touch("open/all", 7)), "17 file 666 0 0 1 7 all")
	wantChanges(t, x, by(owner, touch("o/mine", 7)), "12 file 600 5 7 1 7 mine")
	x.Nodes[nMine].Mode = 0
	wantChanges(t, x, by(owner, touch("o/mine", 7)), "12 file 0 5 7 1 7 mine")
	for _, c := range []struct {
		e    api.Env
		path string
		err  api.Errno
	}{
		{master, "", api.ErrNone}, {master, "x/y", api.ErrNone}, {master, "f/", api.ErrNotDir}, {master, "loop", api.ErrLoop}, {guest, "shut/in", api.ErrPerm},
		{master, "n", api.ErrNone}, {master, "n/", api.ErrNone}, {master, "ln", api.ErrNone}, {guest, "n", api.ErrNone},
		{guest, "f", api.ErrPerm}, {guest, "lf", api.ErrPerm}, {guest, ".", api.ErrPerm}, {guest, "o/mine", api.ErrPerm}, {guest, "open/safe", api.ErrPerm}, {owner, "f", api.ErrPerm},
	} {
		refused(t, x, by(c.e, touch(c.path, 7)), c.err)
		refused(t, x, by(c.e, touch(c.path, -1)), c.err)
	}
}

// P15.1, CaTick: up to MaxTime, and not beyond; anybody's.
func TestTick(t *testing.T) {
	wantChanges(t, small(), by(guest, tick(1)), "now 10")
	wantChanges(t, small(), by(in(owner, 2), tick(0)), "")
	wantChanges(t, small(), by(master, tick(api.MaxTime-10)), "now 1099511627774")
	wantChanges(t, small(), by(master, tick(api.MaxTime-9)), "now 1099511627775")
	wantChanges(t, small(), by(master, tick(api.MaxTime-8)), "now 1099511627775")
	wantChanges(t, small(), by(master, tick(api.MaxTime)), "now 1099511627775")
	late := done(t, small(), by(master, tick(api.MaxTime)))
	wantChanges(t, late, by(master, tick(api.MaxTime)), "")
	wantChanges(t, late, by(master, write("b", "x")), "4 file 644 0 0 1 1099511627775 x")
}

// P15.1: a new node's number is the least that is free.
func TestNewNumbers(t *testing.T) {
	x := done(t, tree.New(), by(master, write("a", "")), by(master, mkdir("b")), by(master, symlink("a", "c")), by(master, write("d", "")), by(master, mkdir("e")))
	for i, name := range []string{"a", "b", "c", "d", "e"} {
		if n := tree.Find(x, 1, name); n != 2+i {
			t.Errorf("%s is the node %d", name, n)
		}
	}
	x = done(t, x, by(master, rmdir("b")), by(master, unlink("d")))
	for _, c := range []api.Call{write("0", ""), mkdir("0"), symlink("x", "0"), lengthen("0", "")} {
		y := done(t, x, by(master, c), by(master, write("1", "")), by(master, write("2", "")))
		for i, name := range []string{"0", "1", "2"} {
			if n, want := tree.Find(y, 1, name), []int{3, 5, 7}[i]; n != want {
				t.Errorf("%s is the node %d, want %d", name, n, want)
			}
		}
	}
	if y := done(t, x, by(master, rmdir("e"))); len(y.Nodes) != 5 {
		t.Errorf("%d nodes, want those up to 4", len(y.Nodes))
	}
	wantChanges(t, x, by(master, link("a", "0")), "1 dir 755 0 0 3 0 ^1 0=2 a=2 c=4 e=6; 2 file 644 0 0 2 0")
}
