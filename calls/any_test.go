package calls_test

import (
	"bytes"
	"math"
	"math/rand"
	"reflect"
	"slices"
	"strconv"
	"strings"
	"testing"
	"time"

	"toolchest/api"
	"toolchest/calls"
	"toolchest/paths"
	"toolchest/perms"
	"toolchest/tree"
)

func oneOf[T any](r *rand.Rand, of ...T) T { return of[r.Intn(len(of))] }

// randomPath: mostly short, of few names, so that most of it is there.
func randomPath(r *rand.Rand) string {
	var out strings.Builder
	out.WriteString(oneOf(r, "", "", "/"))
	for i := range 1 + min(r.Intn(4), r.Intn(4)) {
		if i > 0 {
			out.WriteString(oneOf(r, "/", "/", "/", "//"))
		}
		out.WriteString(oneOf(r, "a", "a", "b", "b", "c", "c", "d", "e", ".", ".."))
	}
	out.WriteString(oneOf(r, "", "", "", "", "", "/"))
	return out.String()
}

func dirsOf(x api.Tree) []int {
	var out []int
	for i, n := range x.Nodes {
		if n.Kind == api.NoDir {
			out = append(out, i)
		}
	}
	return out
}

func somebody(r *rand.Rand, x api.Tree) api.Env {
	return api.Env{User: oneOf(r, 0, 0, 0, 5, 6), Group: oneOf(r, 0, 7), Mask: oneOf(r, 0, 0o022, 0o077, 0o777), Dir: oneOf(r, append(dirsOf(x), 1, 1)...)}
}

// randomCall: one that may be, of any kind.
func randomCall(r *rand.Rand, x api.Tree) api.Call {
	path, other := randomPath(r), randomPath(r)
	mode := oneOf(r, 0o777, 0o777, 0o755, 0o666, 0o711, 0o700, 0, r.Intn(512))
	data := bytesOf(oneOf(r, 0, 1, 2, 5))
	c := oneOf(r, write(path, data), lengthen(path, data), mkdir(path), mkdir(path), rmdir(path), unlink(path), link(path, other), symlink(other, path), rename(path, other), rename(path, other), chmod(path, mode), chown(path, oneOf(r, -1, 0, 5, 6), oneOf(r, -1, 0, 7)), touch(path, oneOf(r, -1, 0, 3)), tick(r.Intn(3)))
	switch c.Kind {
	case api.CaWrite, api.CaAppend, api.CaMkdir:
		c.Mode = mode
	}
	return by(somebody(r, x), c)
}

// P15.1: calls one behind the other, held against the slow reading. Each error that a row names is met.
func TestAny(t *testing.T) {
	r := rand.New(rand.NewSource(15))
	met := map[string]int{}
	for range 1500 {
		x := tree.New()
		for range 120 {
			c := randomCall(r, x)
			got, err := do(t, x, c)
			met[kindNames[c.Kind]+" "+strconv.Itoa(int(err))]++
			if err == api.OK {
				x = got
			}
		}
	}
	for kind, errs := range map[string][]api.Errno{
		"write":   {api.OK, api.ErrDir, api.ErrPerm, api.ErrNone, api.ErrNotDir, api.ErrLoop},
		"append":  {api.OK, api.ErrDir, api.ErrPerm},
		"mkdir":   {api.OK, api.ErrThere, api.ErrPerm},
		"rmdir":   {api.OK, api.ErrBusy, api.ErrNone, api.ErrNotDir, api.ErrPerm},
		"unlink":  {api.OK, api.ErrDir, api.ErrNone, api.ErrPerm},
		"link":    {api.OK, api.ErrDir, api.ErrNone, api.ErrThere, api.ErrPerm},
		"symlink": {api.OK, api.ErrThere, api.ErrNone, api.ErrPerm},
		"rename":  {api.OK, api.ErrBusy, api.ErrNone, api.ErrInto, api.ErrNotDir, api.ErrDir, api.ErrPerm},
		"chmod":   {api.OK, api.ErrNone, api.ErrPerm},
		"chown":   {api.OK, api.ErrNone, api.ErrPerm},
		"touch":   {api.OK, api.ErrNone, api.ErrPerm},
		"tick":    {api.OK},
	} {
		for _, err := range errs {
			if n := met[kind+" "+strconv.Itoa(int(err))]; n < 20 {
				t.Errorf("%s: the error %d was met %d times", kind, err, n)
			}
		}
	}
}

// P15.1: calls on trees that are full, or nearly so, held against the slow reading.
func TestAnyFull(t *testing.T) {
	r := rand.New(rand.NewSource(16))
	deep := tree.New()
	chain(&deep, chain(&deep, 1, 30), 1)
	for _, x := range []api.Tree{fullOfNodes(), fullDirs(0), fullDirs(3), deep} {
		for range 150 {
			c := randomCall(r, x)
			c.Env.User = oneOf(r, 0, 0, 0, 5)
			c.Path = strings.ReplaceAll(strings.ReplaceAll(c.Path, "d", oneOf(r, "d/n1000", "d/f7", "f7", "q/q")), "e", deepPath(29)[1:]+"q")
			if got, err := do(t, x, c); err == api.OK {
				x = got
			}
		}
	}
}

// randomTree: what some calls leave.
func randomTree(r *rand.Rand) api.Tree {
	x := tree.New()
	for range 20 + r.Intn(60) {
		c := randomCall(r, x)
		if r.Intn(2) == 0 {
			c.Env.User = 0
		}
		if got, err := calls.Do(x, c); err == api.OK {
			x = got
		}
	}
	return x
}

// P15.4: what calls leave is a tree that may be; what is neither named nor led through is as it was.
func TestOthersStay(t *testing.T) {
	r := rand.New(rand.NewSource(17))
	count := 0
	for range 1500 {
		x := randomTree(r)
		for range 20 {
			c := randomCall(r, x)
			got, err := calls.Do(x, c)
			if err != api.OK {
				continue
			}
			count++
			if !tree.Check(got) {
				t.Fatalf("%s leaves what may not be", short(c))
			}
			named := []int{0}
			for _, path := range []string{c.Path, c.Other} {
				for _, follow := range []bool{false, true} {
					if p, err := paths.Find(x, c.Env, path, follow); err == api.OK {
						named = append(named, p.Dir, p.Node)
					}
				}
			}
			for i, was := range x.Nodes {
				if was.Kind == api.NoNone || slices.Contains(named, i) {
					continue
				}
				if i >= len(got.Nodes) || !reflect.DeepEqual(plain(api.Tree{Nodes: []api.Node{was}}), plain(api.Tree{Nodes: []api.Node{got.Nodes[i]}})) {
					t.Fatalf("%s: the node %d was %s\n%s\n%s", short(c), i, nodeText(was), text(x), text(got))
				}
			}
		}
	}
	if count < 3000 {
		t.Errorf("only %d calls were done", count)
	}
}

// P15.4: a file that was written is read as it was written; what was appended stands behind it.
func TestWrittenIsRead(t *testing.T) {
	r := rand.New(rand.NewSource(18))
	count := 0
	for range 1500 {
		x := randomTree(r)
		for range 20 {
			data := make([]byte, oneOf(r, 0, 1, 10, 65536, r.Intn(70000)))
			r.Read(data)
			c := api.Call{Kind: oneOf(r, api.CaWrite, api.CaAppend), Path: randomPath(r), Mode: r.Intn(512), Data: data, Env: somebody(r, x)}
			see := api.Env{Dir: c.Env.Dir}
			was, _ := calls.Read(x, see, c.Path)
			if c.Kind == api.CaWrite {
				was = nil
			}
			got, err := calls.Do(x, c)
			if err != api.OK {
				continue
			}
			count++
			want := append(slices.Clone(was), data...)
			if is, err := calls.Read(got, see, c.Path); err != api.OK || !bytes.Equal(is, want) {
				t.Fatalf("%s: read %d bytes, %d", short(c), len(is), err)
			}
			x = got
		}
	}
	if count < 1000 {
		t.Errorf("only %d files were written", count)
	}
}

// P0.2: what somebody may not write stays as it is; what they may not read is not told.
func TestWhoMay(t *testing.T) {
	r := rand.New(rand.NewSource(19))
	kept, hidden := 0, 0
	for range 2500 {
		x := randomTree(r)
		for range 20 {
			c := randomCall(r, x)
			c.Env.User = 6
			got, err := calls.Do(x, c)
			for i, n := range x.Nodes {
				if err != api.OK || n.Kind == api.NoNone || n.User == 6 || perms.May(n, c.Env, 2) {
					continue
				}
				gone := i >= len(got.Nodes) || got.Nodes[i].Kind == api.NoNone
				if gone && n.Kind == api.NoDir && len(n.List) == 0 || gone && n.Kind != api.NoDir {
					continue // its name was in a directory that they may write
				}
				is := got.Nodes[i]
				if gone || !bytes.Equal(n.Data, is.Data) || !slices.Equal(n.List, is.List) || n.Time != is.Time || n.Mode != is.Mode || n.User != is.User || n.Group != is.Group {
					t.Fatalf("%s: the node %d was %s", short(c), i, nodeText(n))
				}
				kept++
			}
			p, err := paths.Find(x, c.Env, c.Path, true)
			if err != api.OK || p.Node == 0 || perms.May(x.Nodes[p.Node], c.Env, 4) {
				continue
			}
			hidden++
			data, _ := calls.Read(x, c.Env, c.Path)
			names, _ := calls.List(x, c.Env, c.Path)
			if data != nil || names != nil {
				t.Fatalf("%s: %q %q is told", short(c), data, names)
			}
		}
	}
	if kept < 1000 || hidden < 1000 {
		t.Errorf("only %d were kept and %d hidden", kept, hidden)
	}
}

// roomy: with something in the spare room of all lists.
func roomy(x api.Tree) api.Tree {
	x = plain(x)
	x.Nodes = append(x.Nodes, api.Node{Mode: 7, Data: []byte("spare")}, api.Node{Links: 3}, api.Node{Kind: api.NoFile})[:len(x.Nodes)]
	for i := range x.Nodes {
		n := &x.Nodes[i]
		n.Data = append(n.Data, "spare spare spare"...)[:len(n.Data)]
		n.List = append(n.List, api.Entry{Name: "spare", Node: 9}, api.Entry{Name: "a", Node: 1}, api.Entry{Name: "zz", Node: 2})[:len(n.List)]
	}
	return x
}

// scribble: over all of a tree, its spare room too.
func scribble(x api.Tree) {
	nodes := x.Nodes[:cap(x.Nodes)]
	for i := range nodes {
		for k := range nodes[i].Data[:cap(nodes[i].Data)] {
			nodes[i].Data[:cap(nodes[i].Data)][k] = byte(i)
		}
		for k := range nodes[i].List[:cap(nodes[i].List)] {
			nodes[i].List[:cap(nodes[i].List)][k] = api.Entry{Name: "scribble", Node: i}
		}
	}
	clear(nodes)
}

// R4: what is handed in is not changed, its spare room neither; an answer shares nothing with it, nor with another answer.
func TestShareNothing(t *testing.T) {
	r := rand.New(rand.NewSource(20))
	for range 3000 {
		x := roomy(randomTree(r))
		c := randomCall(r, x)
		if len(c.Data) > 0 {
			c.Data = append(c.Data, "spare"...)[:len(c.Data)]
		}
		was, data := whole(x), slices.Clone(c.Data[:cap(c.Data)])
		got, err := calls.Do(x, c)
		again, _ := calls.Do(x, c)
		unchanged := func(when string) {
			t.Helper()
			if !reflect.DeepEqual(whole(x), was) || !bytes.Equal(c.Data[:cap(c.Data)], data) {
				t.Fatalf("%s: what was handed in is changed %s", short(c), when)
			}
		}
		unchanged("by the call")
		if err != api.OK {
			continue
		}
		answer := plain(again)
		scribble(got)
		unchanged("by its answer")
		if !reflect.DeepEqual(plain(again), answer) {
			t.Fatalf("%s: two answers share memory", short(c))
		}
		scribble(x)
		for i := range c.Data[:cap(c.Data)] {
			c.Data[:cap(c.Data)][i] = 'y'
		}
		if !reflect.DeepEqual(plain(again), answer) {
			t.Fatalf("%s: the answer shares memory with what was handed in", short(c))
		}
	}
}

// R4: no two lists of one answer share any memory.
func TestListsShareNothing(t *testing.T) {
	r := rand.New(rand.NewSource(21))
	for range 3000 {
		x := randomTree(r)
		got, err := calls.Do(x, randomCall(r, x))
		if err != api.OK {
			continue
		}
		for i := range got.Nodes {
			for k := range got.Nodes[i].Data[:cap(got.Nodes[i].Data)] {
				got.Nodes[i].Data[:cap(got.Nodes[i].Data)][k] = byte(i)
			}
			for k := range got.Nodes[i].List[:cap(got.Nodes[i].List)] {
				got.Nodes[i].List[:cap(got.Nodes[i].List)][k].Node = i
			}
		}
		for i, n := range got.Nodes {
			for _, b := range n.Data[:cap(n.Data)] {
				if b != byte(i) {
					t.Fatal("contents share memory")
				}
			}
			for _, e := range n.List[:cap(n.List)] {
				if e.Node != i {
					t.Fatal("lists share memory")
				}
			}
		}
	}
}

// R4: Data that lies in the tree that is handed in.
func TestDataOfTree(t *testing.T) {
	x := small()
	for _, kind := range []api.CallKind{api.CaWrite, api.CaAppend} {
		for _, path := range []string{"b", "n", "d/a"} {
			got := done(t, x, by(master, api.Call{Kind: kind, Path: path, Data: x.Nodes[4].Data[:2]}))
			was := whole(x)
			scribble(got)
			if !reflect.DeepEqual(whole(x), was) {
				t.Errorf("%d of %s: the answer shares memory with Data", kind, path)
			}
		}
	}
}

// R4: lists that are empty are as none.
func TestEmptyLists(t *testing.T) {
	x := small()
	x.Nodes[0].Data, x.Nodes[0].List = []byte("x")[:0], []api.Entry{{Name: "x"}}[:0]
	for i := range x.Nodes {
		if n := &x.Nodes[i]; len(n.Data) == 0 {
			n.Data = []byte("x")[:0]
		}
		if n := &x.Nodes[i]; len(n.List) == 0 {
			n.List = []api.Entry{{Name: "x", Node: 3}}[:0]
		}
	}
	for _, k := range []api.Call{write("n", ""), mkdir("n"), symlink("x", "n"), unlink("b"), rename("b", "n"), chmod("d", 1), tick(1)} {
		for _, data := range [][]byte{nil, {}, []byte("spare")[:0]} {
			k.Data = data
			got := done(t, x, by(master, k))
			if want := done(t, small(), by(master, k)); !same(got, want) {
				t.Errorf("%s: %s", short(k), text(got))
			}
		}
	}
}

// R5: what is asked again is answered alike, whatever was asked between.
func TestAgain(t *testing.T) {
	r := rand.New(rand.NewSource(22))
	for range 500 {
		x := randomTree(r)
		all := []api.Call{randomCall(r, x), randomCall(r, x), randomCall(r, x), randomCall(r, x)}
		var first []api.Tree
		var errs []api.Errno
		for range 2 {
			for _, c := range all {
				got, err := calls.Do(x, c)
				first, errs = append(first, plain(got)), append(errs, err)
			}
		}
		if !reflect.DeepEqual(first[:4], first[4:]) || !slices.Equal(errs[:4], errs[4:]) {
			t.Fatal("asked again, another answer")
		}
	}
}

// spoilt: a tree such as none of the calls makes.
func spoilt(r *rand.Rand, x api.Tree) api.Tree {
	numbers := []int{0, 1, 1, 2, 2, 3, 4, -1, 511, 512, 65535, 65536, 1 << 40, math.MaxInt, math.MinInt}
	x = plain(x)
	for range r.Intn(4) {
		n, number := &x.Nodes[r.Intn(len(x.Nodes))], oneOf(r, numbers...)
		switch r.Intn(11) {
		case 0:
			n.Kind = api.NodeKind(r.Intn(6))
		case 1:
			n.Parent = number
		case 2:
			n.Target = randomPath(r)
		case 3:
			n.List = append(n.List, api.Entry{Name: randomPath(r), Node: number})
		case 4:
			n.Links = number
		case 5:
			n.Mode = number
		case 6:
			x.Nodes = x.Nodes[:1+r.Intn(len(x.Nodes))]
		case 7:
			x.Now = number
		case 8:
			n.User = number
		case 9:
			n.Time = number
		case 10:
			n.Data = make([]byte, r.Intn(70000))
		}
	}
	return x
}

// R1: trees, people, calls and paths such as none of the calls makes.
func TestWild(t *testing.T) {
	r := rand.New(rand.NewSource(23))
	numbers := []int{0, 0, 0, 1, 2, 3, -1, -2, 511, 512, 65535, 65536, api.MaxTime, 1 << 40, math.MaxInt, math.MinInt}
	for range 20000 {
		x := spoilt(r, randomTree(r))
		c := api.Call{}
		if tree.Check(x) {
			c = randomCall(r, x)
		}
		for range r.Intn(3) {
			number := oneOf(r, numbers...)
			switch r.Intn(12) {
			case 0:
				c.Kind = api.CallKind(r.Intn(256))
			case 1:
				c.Path = oneOf(r, "", "a\x00", strings.Repeat("a", 65), strings.Repeat("a/", 600))
			case 2:
				c.Other = oneOf(r, "", "a\x00", strings.Repeat("a", 65), strings.Repeat("a/", 600))
			case 3:
				c.Mode = number
			case 4:
				c.User = number
			case 5:
				c.Group = number
			case 6:
				c.Time = number
			case 7:
				c.Data = make([]byte, r.Intn(70000))
			case 8:
				c.Env.User = number
			case 9:
				c.Env.Group = number
			case 10:
				c.Env.Mask = number
			case 11:
				c.Env.Dir = number
			}
		}
		do(t, x, c)
		calls.Read(x, c.Env, c.Path)
		calls.List(x, c.Env, c.Path)
		calls.Stat(x, c.Env, c.Path, true)
		calls.Stat(x, c.Env, c.Path, false)
		calls.Readlink(x, c.Env, c.Path)
		calls.Chdir(x, c.Env, c.Path)
	}
}

// R1: what is far beyond any limit is answered, too.
func TestFarBeyond(t *testing.T) {
	began := time.Now()
	long := strings.Repeat("a/", 1<<22)
	for _, c := range []api.Call{write(long, ""), mkdir(long), unlink(long), link(long, "n"), link("b", long), symlink(long, "n"), symlink("n", long), rename("b", long), chmod(long, 1)} {
		refused(t, small(), by(master, c), api.ErrName)
	}
	refused(t, small(), by(master, write("b", bytesOf(1<<24))), api.ErrBig)
	refused(t, small(), by(master, lengthen("b", bytesOf(1<<24))), api.ErrBig)
	for _, n := range []int{514, 1 << 18} {
		refused(t, api.Tree{Nodes: make([]api.Node, n)}, by(master, write("b", "")), api.ErrArg)
	}
	wantLook(t, small(), master, long, looked{api.ErrName, api.ErrName, api.ErrName, api.ErrName, api.ErrName, api.ErrName})
	if gone := time.Since(began); gone > 20*time.Second {
		t.Errorf("it took %v", gone)
	}
}

// R1: calls on full trees come to an end soon.
func TestFullTreeSoon(t *testing.T) {
	x := fullOfNodes()
	for i := range 16 {
		x.Nodes[3+i].Data = make([]byte, 65536)
	}
	began := time.Now()
	for range 100 {
		for _, c := range []api.Call{rename("d", "e"), unlink("d/f512"), chmod("d", 0), mkdir("n"), tick(1)} {
			calls.Do(x, by(master, c))
		}
	}
	if gone := time.Since(began); gone > 20*time.Second {
		t.Errorf("it took %v", gone)
	}
}
