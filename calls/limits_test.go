package calls_test

import (
	"strconv"
	"strings"
	"testing"

	"toolchest/api"
	"toolchest/calls"
	"toolchest/tree"
)

func bytesOf(n int) string { return strings.Repeat("x", n) }

// fullOfNodes: the root, a directory d, and files f3 to f512 in it.
func fullOfNodes() api.Tree {
	x := tree.New()
	add(&x, 1, "d", dirOf(0o777))
	for i := 3; i <= api.MaxNodes; i++ {
		add(&x, 2, "f"+strconv.Itoa(i), fileOf(""))
	}
	return x
}

// P15.1: MaxNodes nodes: no new one; what needs none is done.
func TestMaxNodes(t *testing.T) {
	x := fullOfNodes()
	if nodes, _ := tree.Sizes(x); nodes != 512 || len(x.Nodes) != 513 {
		t.Fatalf("%d nodes", nodes)
	}
	for _, c := range []api.Call{write("n", ""), lengthen("n", "x"), mkdir("n"), symlink("x", "n"), write("d/n", ""), mkdir("d/n/"), symlink("x", "d/n")} {
		refused(t, x, by(master, c), api.ErrFull)
	}
	for _, c := range []api.Call{write("n", ""), lengthen("n", ""), mkdir("n"), symlink("x", "n")} {
		refused(t, x, by(guest, c), api.ErrPerm)
	}
	refused(t, x, by(master, write("n/", "")), api.ErrDir)
	refused(t, x, by(master, mkdir("d")), api.ErrThere)
	refused(t, x, by(master, symlink("x", "d")), api.ErrThere)
	refused(t, x, by(master, symlink("x", "n/")), api.ErrNone)
	done(t, x, by(master, write("d/f3", "x")), by(master, lengthen("d/f512", "y")), by(master, link("d/f3", "n")), by(master, rename("d/f4", "f4")), by(master, chmod("d", 0)), by(master, touch("d", -1)))
	for _, gone := range []string{"f3", "f100", "f512"} {
		number := tree.Find(x, 2, gone)
		less := done(t, x, by(master, unlink("d/"+gone)))
		if len(less.Nodes) == 513 != (gone != "f512") {
			t.Errorf("without %s: %d nodes", gone, len(less.Nodes))
		}
		for _, c := range []api.Call{write("n", ""), lengthen("n", "x"), mkdir("n"), symlink("x", "n")} {
			again := done(t, less, by(master, c))
			if n := tree.Find(again, 1, "n"); n != number {
				t.Errorf("the new node is %d, want %d", n, number)
			}
			refused(t, again, by(master, write("m", "")), api.ErrFull)
		}
	}
}

// many: that many names of a node in a directory.
func many(x *api.Tree, dir, node int, names int) {
	for i := range names {
		list(x, dir, "n"+strconv.Itoa(1000+i), node)
	}
}

// fullDirs: directories a to d (2 to 5), a file (6) and another one (7): a, b, c have 512 names of the file, d so many that there are all names that may be but left; f and g are the files in the root.
func fullDirs(left int) api.Tree {
	x := tree.New()
	for i := range 4 {
		add(&x, 1, string(rune('a'+i)), dirOf(0o755))
	}
	add(&x, 1, "f", fileOf("f"))
	add(&x, 1, "g", fileOf("g"))
	for dir := 2; dir <= 4; dir++ {
		many(&x, dir, 6, 512)
	}
	many(&x, 5, 6, 2048-3*512-6-left)
	return x
}

// newNames: calls by which one name more comes into a directory.
func newNames(dir string) []api.Call {
	return []api.Call{write(dir+"/x", ""), lengthen(dir+"/x", "x"), mkdir(dir + "/x"), symlink("x", dir+"/x"), link("f", dir+"/x")}
}

// P15.1: MaxNodes names in a directory.
func TestMaxNames(t *testing.T) {
	x := fullDirs(100)
	if n := len(x.Nodes[2].List); n != 512 {
		t.Fatalf("%d names", n)
	}
	for _, c := range newNames("a") {
		refused(t, x, by(master, c), api.ErrFull)
		refused(t, x, by(guest, c), api.ErrPerm)
		done(t, x, by(master, unlink("a/n1000")), by(master, c))
	}
	for _, c := range newNames("d") {
		done(t, x, by(master, c))
	}
	refused(t, x, by(master, write("a/x/", "")), api.ErrDir)
	refused(t, x, by(master, mkdir("a/n1000")), api.ErrThere)
	refused(t, x, by(master, link("f", "a/n1000")), api.ErrThere)
	refused(t, x, by(master, link("f", "a/x/")), api.ErrNone)
	done(t, x, by(master, write("a/n1000", "x")), by(master, lengthen("a/n1511", "x")))
	one := x
	one = done(t, one, by(master, unlink("b/n1000")), by(master, write("b/x", "")))
	refused(t, one, by(master, write("b/y", "")), api.ErrFull)
}

// P15.1, CaRename: ErrFull only if Other is none, in another directory, with MaxNodes names.
func TestRenameIntoFull(t *testing.T) {
	for _, left := range []int{0, 1, 100} {
		x := fullDirs(left)
		refused(t, x, by(master, rename("g", "a/x")), api.ErrFull)
		refused(t, x, by(master, rename("f", "a/x")), api.ErrFull)
		refused(t, x, by(master, rename("b/n1000", "a/x")), api.ErrFull)
		refused(t, x, by(master, rename("d", "a/x")), api.ErrFull)
		refused(t, x, by(guest, rename("g", "a/x")), api.ErrPerm)
		refused(t, x, by(master, rename("g", "a/x/")), api.ErrNotDir)
		refused(t, x, by(master, rename("a", "a/x")), api.ErrInto)
		for _, c := range []api.Call{rename("g", "a/n1000"), rename("a/n1000", "a/x"), rename("a/n1511", "a/n"), rename("a/n1000", "x"), rename("a/n1000", "d/x"), rename("g", "d/x"), rename("a", "d/a"), rename("a", "x"), rename("a/n1000", "g")} {
			done(t, x, by(master, c))
		}
		wantChanges(t, x, by(master, rename("f", "a/n1000")), "")
		only := x
		only.Nodes = append([]api.Node(nil), x.Nodes...)
		only.Nodes[2].User = 6
		refused(t, only, by(guest, rename("a/n1000", "x")), api.ErrPerm)
		refused(t, only, by(guest, rename("g", "a/x")), api.ErrPerm)
	}
}

// P15.1: 4 * MaxNodes names in all.
func TestMaxNamesInAll(t *testing.T) {
	x := fullDirs(1)
	for _, dir := range []string{"d", "."} {
		for _, c := range newNames(dir) {
			y := done(t, x, by(master, c))
			for _, again := range []string{"d/y", "y"} {
				refused(t, y, by(master, write(again, "")), api.ErrFull)
				refused(t, y, by(master, lengthen(again, "")), api.ErrFull)
				refused(t, y, by(master, mkdir(again)), api.ErrFull)
				refused(t, y, by(master, symlink("x", again)), api.ErrFull)
				refused(t, y, by(master, link("f", again)), api.ErrFull)
				refused(t, y, by(guest, link("f", again)), api.ErrPerm)
				refused(t, y, by(guest, write(again, "")), api.ErrPerm)
			}
			done(t, y, by(master, rename("g", "y")), by(master, rename("y", "d/y")), by(master, unlink("d/y")), by(master, link("f", "y")))
			done(t, y, by(master, write("g", "x")))
		}
	}
	names := 0
	for _, n := range fullDirs(0).Nodes {
		names += len(n.List)
	}
	if names != 2048 {
		t.Errorf("%d names", names)
	}
}

// P15.1: MaxFile bytes and one more.
func TestMaxFile(t *testing.T) {
	x := done(t, small(), by(master, write("b", bytesOf(65536))), by(master, write("n", bytesOf(65536))), by(master, lengthen("m", bytesOf(65536))))
	refused(t, small(), by(master, write("b", bytesOf(65537))), api.ErrBig)
	refused(t, small(), by(master, write("n", bytesOf(65537))), api.ErrBig)
	refused(t, small(), by(master, lengthen("n", bytesOf(65537))), api.ErrBig)
	refused(t, small(), by(master, lengthen("d", bytesOf(65537))), api.ErrBig)
	refused(t, small(), by(guest, lengthen("b", bytesOf(65537))), api.ErrBig)
	done(t, small(), by(master, lengthen("b", bytesOf(65533))))
	refused(t, small(), by(master, lengthen("b", bytesOf(65534))), api.ErrBig)
	refused(t, small(), by(guest, lengthen("b", bytesOf(65534))), api.ErrPerm)
	refused(t, x, by(master, lengthen("b", "x")), api.ErrBig)
	refused(t, x, by(guest, lengthen("b", "x")), api.ErrPerm)
	refused(t, x, by(master, lengthen("d", bytesOf(65536))), api.ErrDir)
	done(t, x, by(master, lengthen("b", "")), by(master, write("b", bytesOf(65536))), by(master, write("b", "")), by(master, lengthen("b", bytesOf(65536))))
}

// P15.1: MaxTree bytes in all files, and one more.
func TestMaxTree(t *testing.T) {
	x := tree.New()
	for i := range 16 {
		add(&x, 1, "f"+strconv.Itoa(i), fileOf(bytesOf(65536)))
	}
	add(&x, 1, "s", fileOf(""))
	list(&x, 1, "t", 2)
	if _, bytes := tree.Sizes(x); bytes != 1048576 {
		t.Fatalf("%d bytes", bytes)
	}
	refused(t, x, by(master, write("n", "x")), api.ErrFull)
	refused(t, x, by(master, lengthen("n", "x")), api.ErrFull)
	refused(t, x, by(master, write("s", "x")), api.ErrFull)
	refused(t, x, by(master, lengthen("s", "x")), api.ErrFull)
	refused(t, x, by(master, lengthen("s", bytesOf(65536))), api.ErrFull)
	refused(t, x, by(master, lengthen("f0", "x")), api.ErrBig)
	refused(t, x, by(master, write("f0", bytesOf(65537))), api.ErrBig)
	refused(t, x, by(guest, write("n", "x")), api.ErrPerm)
	refused(t, x, by(guest, write("s", "x")), api.ErrPerm)
	refused(t, x, by(master, write("n/", "x")), api.ErrDir)
	done(t, x, by(master, write("n", "")), by(master, write("f0", bytesOf(65536))), by(master, lengthen("f0", "")), by(master, symlink("far", "l")), by(master, unlink("t")))
	x = done(t, x, by(master, write("f9", bytesOf(65530))))
	for _, c := range []func(p, s string) api.Call{write, lengthen} {
		for _, path := range []string{"n", "s"} {
			refused(t, x, by(master, c(path, bytesOf(7))), api.ErrFull)
			y := done(t, x, by(master, c(path, bytesOf(6))))
			refused(t, y, by(master, lengthen(path, "x")), api.ErrFull)
			refused(t, y, by(master, write(path, bytesOf(7))), api.ErrFull)
			done(t, y, by(master, write(path, bytesOf(6))), by(master, write(path, "")), by(master, lengthen("f9", bytesOf(6))))
		}
	}
	x = done(t, x, by(master, unlink("t")))
	refused(t, x, by(master, write("n", bytesOf(7))), api.ErrFull)
	done(t, x, by(master, unlink("f0")), by(master, write("n", bytesOf(65536))))
}

// chain: so many directories q, one in the other; the path of the last one.
func chain(x *api.Tree, from int, count int) (last int) {
	for range count {
		from = add(x, from, "q", dirOf(0o755))
	}
	return from
}

func deepPath(count int) string { return "/" + strings.Repeat("q/", count) }

// P15.1: MaxDeep directories, and one more.
func TestMaxDeep(t *testing.T) {
	x := tree.New()
	chain(&x, 1, 31)
	x = done(t, x, by(master, mkdir(deepPath(31)+"q")))
	refused(t, x, by(master, mkdir(deepPath(32)+"q")), api.ErrLimit)
	refused(t, x, by(master, mkdir(deepPath(32)+"q/")), api.ErrLimit)
	refused(t, x, by(in(master, 33), mkdir("q")), api.ErrLimit)
	refused(t, x, by(guest, mkdir(deepPath(32)+"q")), api.ErrPerm)
	refused(t, x, by(master, mkdir(deepPath(32))), api.ErrThere)
	refused(t, x, by(master, mkdir(deepPath(32)+".")), api.ErrThere)
	done(t, x, by(master, write(deepPath(32)+"f", "x")), by(master, symlink("x", deepPath(32)+"l")), by(master, link(deepPath(32)+"f", deepPath(32)+"g")), by(master, mkdir(deepPath(31)+"p")), by(master, rename(deepPath(32)+"f", "f")), by(master, rename("f", deepPath(32)+"f")))
	chainFull := tree.New()
	last := chain(&chainFull, 1, 32)
	file := add(&chainFull, 1, "f", fileOf(""))
	many(&chainFull, last, file, 512)
	refused(t, chainFull, by(master, mkdir(deepPath(32)+"x")), api.ErrFull)
	allNodes := tree.New()
	last = chain(&allNodes, 1, 32)
	for len(allNodes.Nodes) <= api.MaxNodes {
		add(&allNodes, 1, "f"+strconv.Itoa(len(allNodes.Nodes)), fileOf(""))
	}
	refused(t, allNodes, by(master, mkdir(deepPath(32)+"x")), api.ErrLimit)
	refused(t, allNodes, by(in(master, last), mkdir("x")), api.ErrLimit)
	refused(t, allNodes, by(master, mkdir(deepPath(31)+"x")), api.ErrFull)
}

// P15.1, CaRename: what is in a directory comes as deep as it does.
func TestRenameTooDeep(t *testing.T) {
	x := tree.New()
	chain(&x, 1, 30)
	add(&x, 1, "one", dirOf(0o755))
	two := add(&x, 1, "two", dirOf(0o755))
	add(&x, two, "b", dirOf(0o755))
	three := add(&x, 1, "three", dirOf(0o755))
	add(&x, three, "a", fileOf(""))
	b := add(&x, three, "b", dirOf(0o755))
	add(&x, three, "c", dirOf(0o755))
	add(&x, b, "d", dirOf(0o755))
	at := len(x.Nodes)
	x = done(t, x, by(master, mkdir(deepPath(30)+"e")), by(master, mkdir(deepPath(30)+"e/e")))
	for _, c := range []struct {
		path, other string
		err         api.Errno
	}{
		{"three", deepPath(29) + "n", api.OK}, {"three", deepPath(30) + "n", api.ErrLimit}, {"three", deepPath(30) + "n/", api.ErrLimit}, {"three", deepPath(30) + "e/n", api.ErrLimit}, {"three", deepPath(30) + "e/e/n", api.ErrLimit},
		{"two", deepPath(30) + "n", api.OK}, {"two", deepPath(30) + "e/n", api.ErrLimit}, {"two", deepPath(30) + "e/e", api.ErrLimit}, {"two", deepPath(30) + "e", api.ErrBusy},
		{"one", deepPath(30) + "e/n", api.OK}, {"one", deepPath(30) + "e/e", api.OK}, {"one", deepPath(30) + "e/e/n", api.ErrLimit},
		{"three/b", deepPath(30) + "n", api.OK}, {"three/b", deepPath(30) + "e/n", api.ErrLimit}, {"three/c", deepPath(30) + "e/n", api.OK}, {"three/a", deepPath(30) + "e/e/n", api.OK},
		{"q", "r", api.OK}, {"q", "one", api.OK}, {"q", "one/q", api.ErrLimit}, {"q", "three/a", api.ErrNotDir}, {"q", "two/b", api.ErrLimit}, {"q/q", "one/q", api.OK}, {"q/q", "two/b", api.OK}, {"q/q", "two/b/q", api.ErrLimit}, {"q", "q/q/n", api.ErrInto}, {deepPath(30) + "e", deepPath(30) + "n", api.OK}, {deepPath(30) + "e/e", deepPath(30) + "e/n", api.OK},
	} {
		if _, err := do(t, x, by(master, rename(c.path, c.other))); err != c.err {
			t.Errorf("%s to %s: %d, want %d", c.path, c.other, err, c.err)
		}
	}
	refused(t, x, by(guest, rename("three", deepPath(30)+"n")), api.ErrLimit)
	refused(t, x, by(in(master, at+1), rename("/two", "../e")), api.ErrBusy)
	refused(t, x, by(in(guest, at+1), rename("/two", "../e")), api.ErrBusy)
}

// P15.1: where a name may not come into a full directory that is too deep, too, the room of the directory is asked first, as it is where ErrPerm is.
func TestRoomAheadOfDepth(t *testing.T) {
	x := tree.New()
	last := chain(&x, 1, 32)
	file := add(&x, 1, "f", fileOf(""))
	many(&x, last, file, 511)
	refused(t, x, by(master, mkdir(deepPath(32)+"x")), api.ErrLimit)
	x = done(t, x, by(master, link("f", deepPath(32)+"x")))
	refused(t, x, by(master, mkdir(deepPath(32)+"y")), api.ErrFull)
	refused(t, x, by(guest, mkdir(deepPath(32)+"y")), api.ErrPerm)
	add(&x, 1, "d", dirOf(0o755))
	refused(t, x, by(master, rename("d", deepPath(32)+"y")), api.ErrLimit)
}

// P15.1: names of MaxName bytes, targets of MaxPath bytes; longer ones are refused on the way.
func TestMaxName(t *testing.T) {
	long := strings.Repeat("n", 64)
	for _, c := range []api.Call{write(long, ""), lengthen(long, ""), mkdir(long), symlink(bytesOf(1024), long), link("b", long), rename("b", long), rename("d", long)} {
		done(t, small(), by(master, c))
	}
	for _, c := range []api.Call{write(long+"n", ""), lengthen(long+"n", ""), mkdir(long + "n"), symlink("b", long+"n"), link("b", long+"n"), rename("b", long+"n"), rename("d", long+"n"), symlink(bytesOf(1025), "m")} {
		refused(t, small(), by(master, c), api.ErrName)
	}
	if _, err := calls.Read(small(), master, strings.Repeat("./", 512)+"b"); err != api.ErrName {
		t.Error(err)
	}
}
