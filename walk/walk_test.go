package walk_test

import (
	"math"
	"slices"
	"strconv"
	"strings"
	"testing"

	"toolchest/api"
	"toolchest/paths"
	"toolchest/tree"
)

// The chapter's examples.
func TestExamples(t *testing.T) {
	x := small()
	wantWalk(t, x, master, "/", 9, "/ 1 0, /a 2 1, /a/b 3 2, /a 2 1^, / 1 0^", "")
	wantWalk(t, x, master, "a", 0, "a 2 0, a 2 0^", "")
	wantSizes(t, "the first ones", x, stepsOf(t, x, master, "/", 9), 0, 0, 5, 5, 5)
}

// P18.1: a tree that may not be, and nobody such: ErrArg, ahead of what is wrong with the path.
func TestNobody(t *testing.T) {
	x := sample()
	x.Nodes[nG].Links++
	for _, p := range []string{"/", "d", "x", "", strings.Repeat("p", 1025), "\x00", "f/x"} {
		wantErr(t, x, master, p, 9, api.ErrArg)
		wantErr(t, api.Tree{}, master, p, 9, api.ErrArg)
		for _, e := range []api.Env{{User: -1, Dir: 1}, {User: 65536, Dir: 1}, {Group: -1, Dir: 1}, {Group: 65536, Dir: 1}, {Mask: -1, Dir: 1}, {Mask: 512, Dir: 1}, {}, {Dir: -1}, {Dir: nG}, {Dir: nL}, {Dir: nFree}, {Dir: 99}} {
			wantErr(t, sample(), e, p, 9, api.ErrArg)
		}
	}
}

// P18.1: the errors of paths.Find, and ErrNone of a path that leads to no node; whatever deepest is.
func TestErrors(t *testing.T) {
	x := sample()
	for _, c := range []struct {
		path string
		want api.Errno
	}{
		{"", api.ErrNone},
		{strings.Repeat("/", 1025), api.ErrName},
		{"d\x00", api.ErrName},
		{strings.Repeat("n", 65), api.ErrName},
		{"x", api.ErrNone}, {"/x", api.ErrNone}, {"x/", api.ErrNone}, {"d/x", api.ErrNone}, {"x/y", api.ErrNone}, {"d/e/x", api.ErrNone},
		{"m/", api.ErrNone}, {"m/x", api.ErrNone},
		{"f/", api.ErrNotDir}, {"f/x", api.ErrNotDir}, {"d/g/.", api.ErrNotDir},
		{"z/", api.ErrLoop}, {"z/x", api.ErrLoop},
		{"u/v", api.ErrPerm}, {"u/x", api.ErrPerm}, {"u/.", api.ErrPerm}, {"u/..", api.ErrPerm},
	} {
		for _, deepest := range []int{math.MinInt, -1, 0, 1, math.MaxInt} {
			wantErr(t, x, guest, c.path, deepest, c.want)
		}
	}
}

// P18.1: what is no directory is one step, whatever deepest is; a link is not followed.
func TestOneStep(t *testing.T) {
	x := sample()
	for _, c := range []struct {
		path string
		node string
	}{{"f", "4"}, {"/f", "4"}, {"d/g", "4"}, {"./d//g", "4"}, {"l/h", "4"}, {"l", "7"}, {"//l", "7"}, {"m", "8"}, {"d/m", "8"}, {"z", "9"}} {
		for _, deepest := range []int{math.MinInt, -1, 0, 1, 9, math.MaxInt} {
			wantWalk(t, x, guest, c.path, deepest, c.path+" "+c.node+" 0", "")
		}
	}
}

// allOfD: the walk through d, by some path; the names stand behind base.
func allOfD(path, base string) string {
	return path + " 2 0, " + base + "e 3 1, " + base + "e 3 1^, " + base + "g 4 1, " + base + "h 4 1, " + base + "m 8 1, " + base + "s 5 1, " + base + "s/x 6 2, " + base + "s 5 1^, " + path + " 2 0^"
}

// P18.1: the first Path is the one that was told, with its slashes and parts `.`; the others are put together by paths.Join.
func TestPaths(t *testing.T) {
	x := sample()
	for _, c := range []struct{ path, base string }{{"d", "d/"}, {"d/", "d/"}, {"d//", "d//"}, {"/d", "/d/"}, {"//d///", "//d///"}, {"./d", "./d/"}, {"d/.", "d/./"}, {"d/./", "d/./"}, {"d/e/..", "d/e/../"}, {"u/../d", "u/../d/"}, {"l/", "l/"}, {"l/.", "l/./"}, {"l/e/../", "l/e/../"}} {
		wantWalk(t, x, master, c.path, 9, allOfD(c.path, c.base), "")
	}
	for _, p := range []string{".", "./", "e/..", "../d", "/d"} {
		base := p + "/"
		if p == "./" {
			base = p
		}
		wantWalk(t, x, in(master, nD), p, 9, allOfD(p, base), "")
	}
	e := in(master, nS)
	wantWalk(t, x, e, "x", 9, "x 6 0", "")
	wantWalk(t, x, e, ".", 9, ". 5 0, ./x 6 1, . 5 0^", "")
	wantWalk(t, x, e, "..", 1, ".. 2 0, ../e 3 1, ../e 3 1^, ../g 4 1, ../h 4 1, ../m 8 1, ../s 5 1, ../s 5 1^, .. 2 0^", "")
	for _, p := range []string{"/", "//", "///"} {
		wantWalk(t, small(), master, p, 9, p+" 1 0, "+p+"a 2 1, "+p+"a/b 3 2, "+p+"a 2 1^, "+p+" 1 0^", "")
	}
}

// P18.1: all of the sample, and as deep as deepest says: below 0 and at 0 nothing is gone into; more than the tree is deep makes no difference.
func TestDeepest(t *testing.T) {
	x := sample()
	wantWalk(t, x, master, "/", math.MinInt, "/ 1 0, / 1 0^", "")
	wantWalk(t, x, master, "/", -1, "/ 1 0, / 1 0^", "")
	wantWalk(t, x, master, "/", 0, "/ 1 0, / 1 0^", "")
	wantWalk(t, x, master, "/", 1, "/ 1 0, /d 2 1, /d 2 1^, /f 4 1, /l 7 1, /m 8 1, /u 11 1, /u 11 1^, /z 9 1, / 1 0^", "")
	two := "/ 1 0, /d 2 1, /d/e 3 2, /d/e 3 2^, /d/g 4 2, /d/h 4 2, /d/m 8 2, /d/s 5 2, %/d/s 5 2^, /d 2 1^, /f 4 1, /l 7 1, /m 8 1, /u 11 1, /u/v 12 2, /u/w 13 2, #/u/w 13 2^, /u 11 1^, /z 9 1, / 1 0^"
	wantWalk(t, x, master, "/", 2, strings.NewReplacer("%", "", "#", "").Replace(two), "")
	for _, deepest := range []int{3, 4, 32, 33, 1000, math.MaxInt} {
		wantWalk(t, x, master, "/", deepest, strings.NewReplacer("%", "/d/s/x 6 3, ", "#", "/u/w/y 14 3, ").Replace(two), "")
	}
	// Depth counts from where the walk begins.
	wantWalk(t, x, master, "/u", 1, "/u 11 0, /u/v 12 1, /u/w 13 1, /u/w 13 1^, /u 11 0^", "")
	wantWalk(t, x, master, "/d/s", 1, "/d/s 5 0, /d/s/x 6 1, /d/s 5 0^", "")
	wantWalk(t, x, master, "/d/e", 9, "/d/e 3 0, /d/e 3 0^", "")
	wantWalk(t, tree.New(), master, "/", 9, "/ 1 0, / 1 0^", "")
}

// nest: directories a, a/b, a/b/c of the user 5, group 7, each with a file f, of these modes.
func nest(modes ...int) api.Tree {
	x := tree.New()
	at := nRoot
	for i, m := range modes {
		at = add(&x, at, string(rune('a'+i)), ownedBy(5, 7, dirOf(m)))
		add(&x, at, "f", fileOf("f"))
	}
	return x
}

// P18.1: a directory that somebody may not read, or not go through, is not gone into, and its Path is told: at the beginning, and within; while its Depth is below deepest.
func TestShut(t *testing.T) {
	x := sample()
	for _, e := range []api.Env{friend, guest} {
		wantWalk(t, x, e, "u", 9, "u 11 0, u 11 0^", "u")
		wantWalk(t, x, e, "u", 1, "u 11 0, u 11 0^", "u")
		wantWalk(t, x, e, "u", 0, "u 11 0, u 11 0^", "")
		wantWalk(t, x, e, "u", -1, "u 11 0, u 11 0^", "")
		wantWalk(t, x, e, "u/", 9, "u/ 11 0, u/ 11 0^", "u/")
		wantWalk(t, x, e, "/", 1, "/ 1 0, /d 2 1, /d 2 1^, /f 4 1, /l 7 1, /m 8 1, /u 11 1, /u 11 1^, /z 9 1, / 1 0^", "")
		wantWalk(t, x, e, "/", 2, "/ 1 0, /d 2 1, /d/e 3 2, /d/e 3 2^, /d/g 4 2, /d/h 4 2, /d/m 8 2, /d/s 5 2, /d/s 5 2^, /d 2 1^, /f 4 1, /l 7 1, /m 8 1, /u 11 1, /u 11 1^, /z 9 1, / 1 0^", "/u")
	}
	// They are in it, and may go to what is in it no more than any other.
	wantWalk(t, x, in(guest, nU), "/u", 9, "/u 11 0, /u 11 0^", "/u")
	wantErr(t, x, in(guest, nU), ".", 9, api.ErrPerm)
	wantWalk(t, x, in(guest, nW), ".", 9, ". 13 0, ./y 14 1, . 13 0^", "")
	for _, e := range []api.Env{master, owner} {
		wantWalk(t, x, e, "u", 9, "u 11 0, u/v 12 1, u/w 13 1, u/w/y 14 2, u/w 13 1^, u 11 0^", "")
	}
	// Several, in the order in which they are come to: what is within one that is shut is not come to.
	x.Nodes[nE].Mode, x.Nodes[nS].Mode = 0o766, 0o711
	_, shut, _ := both(t, x, guest, "/", 9)
	if !slices.Equal(shut, []string{"/d/e", "/d/s", "/u"}) {
		t.Errorf("shut: %q", shut)
	}
	_, shut, _ = both(t, nest(0o755, 0o700, 0o700), guest, "a", 9)
	if !slices.Equal(shut, []string{"a/b"}) {
		t.Errorf("shut: %q", shut)
	}
	// The one behind it stands ahead of what is behind in the list, but for the one ahead.
	wantWalk(t, nest(0o755, 0o644, 0o755), guest, ".", 9, ". 1 0, ./a 2 1, ./a/b 4 2, ./a/b 4 2^, ./a/f 3 2, ./a 2 1^, . 1 0^", "./a/b")
}

// P18.1: both bits that count, 4 and 1, of those that somebody has; at the beginning and within.
func TestWhoMay(t *testing.T) {
	for mode := range 512 {
		x := nest(mode)
		for _, c := range []struct {
			e    api.Env
			bits int
		}{{owner, mode >> 6}, {api.Env{User: 5, Group: 8, Dir: 1}, mode >> 6}, {friend, mode >> 3}, {guest, mode}, {master, 7}} {
			begin, within := "a 2 0, a 2 0^", "/ 1 0, /a 2 1, /a 2 1^, / 1 0^"
			shutBegin, shutWithin := "a", "/a"
			if c.bits&5 == 5 {
				begin, within = "a 2 0, a/f 3 1, a 2 0^", "/ 1 0, /a 2 1, /a/f 3 2, /a 2 1^, / 1 0^"
				shutBegin, shutWithin = "", ""
			}
			wantWalk(t, x, c.e, "a", 1, begin, shutBegin)
			wantWalk(t, x, c.e, "/", 2, within, shutWithin)
		}
	}
}

// P18.1: names in order, by their bytes, whatever the nodes' numbers; a file by each of its names.
func TestOrder(t *testing.T) {
	x := tree.New()
	names := []string{"b", "a", "B", "a.", "a0", "ab", "-", "...", "\xff", "z z", "\n", "é"}
	for i, s := range names {
		if i%3 == 0 {
			add(&x, nRoot, s, dirOf(0o755))
		} else {
			add(&x, nRoot, s, fileOf(s))
		}
	}
	name(&x, nRoot, "A", 3)
	name(&x, 2, "A", 3)
	var got []string
	for _, s := range stepsOf(t, x, master, "/", 9) {
		if s.Depth > 0 && !s.After {
			got = append(got, s.Path)
		}
	}
	want := []string{"/\n", "/-", "/...", "/A", "/B", "/a", "/a.", "/a0", "/ab", "/b", "/b/A", "/z z", "/é", "/\xff"}
	if !slices.Equal(got, want) {
		t.Errorf("%q, want %q", got, want)
	}
}

// chain: so many directories, each one within the one ahead of it, with names of so many bytes.
func chain(n, size int) api.Tree {
	t := tree.New()
	at := nRoot
	for i := range n {
		at = add(&t, at, strings.Repeat(string(rune('a'+i%26)), size), dirOf(0o755))
	}
	return t
}

// P18.1: as deep as may be; Paths that are longer than a path may be are told, too.
func TestDeep(t *testing.T) {
	for _, size := range []int{1, api.MaxName} {
		x := chain(api.MaxDeep, size)
		for _, deepest := range []int{-1, 0, 1, 2, 30, 31, 32, 33, math.MaxInt} {
			l := stepsOf(t, x, master, "/", deepest)
			gone := min(max(deepest, 0), api.MaxDeep)
			if len(l) != 2*gone+2 {
				t.Fatalf("deepest %d: %d steps", deepest, len(l))
			}
			if s := l[gone]; s.Depth != gone || s.After || len(s.Path) != max(1, gone*(size+1)) || l[gone+1] != (api.Step{Path: s.Path, Node: s.Node, Depth: gone, After: true}) {
				t.Fatalf("deepest %d: %+v, %+v", deepest, s, l[gone+1])
			}
		}
	}
	begin := strings.Repeat("/", api.MaxPath)
	l := stepsOf(t, chain(api.MaxDeep, api.MaxName), master, begin, 99)
	if s := l[api.MaxDeep]; len(s.Path) != api.MaxPath+api.MaxDeep*(api.MaxName+1)-1 {
		t.Errorf("a Path of %d bytes", len(s.Path))
	}
}

// full: as many nodes and names as may be: directories, and files that each of them lists.
func full() api.Tree {
	x := tree.New()
	for i := range 4 {
		add(&x, nRoot, "d"+strconv.Itoa(i), dirOf(0o755))
	}
	var list []api.Entry
	for i := range api.MaxNodes - 5 {
		x.Nodes = append(x.Nodes, api.Node{Kind: api.NoFile, Links: 4, Data: []byte("x")})
		list = append(list, api.Entry{Name: strings.Repeat("n", 61) + strconv.Itoa(100+i), Node: 6 + i})
	}
	for d := 2; d <= 5; d++ {
		x.Nodes[d].List = slices.Clone(list)
	}
	return x
}

// P18.1, P18.2: a full tree: each file by each of its names, but counted once.
func TestFull(t *testing.T) {
	x := full()
	l := stepsOf(t, x, master, "/", 9)
	if want := 2 + 4*2 + 4*(api.MaxNodes-5); len(l) != want {
		t.Fatalf("%d steps, want %d", len(l), want)
	}
	n := sizes(t, x, l)
	ends := []int{}
	for i, s := range l {
		if s.After {
			ends = append(ends, n[i])
		}
	}
	if !slices.Equal(ends, []int{507, 0, 0, 0, 507}) {
		t.Errorf("directories tell %v", ends)
	}
}

// P18.1: a Path is as paths.Join puts it together.
func TestJoined(t *testing.T) {
	x := sample()
	for _, p := range []string{"/", ".", "d", "d/", "u//"} {
		l := stepsOf(t, x, master, p, 9)
		for i, s := range l {
			for k := i - 1; k >= 0 && s.Depth > 0; k-- {
				if up := l[k]; up.Depth == s.Depth-1 { // the latest one is what it is in
					if of := s.Path[len(s.Path)-1:]; s.Path != paths.Join(up.Path, of) {
						t.Errorf("%q in %q", s.Path, up.Path)
					}
					break
				}
			}
		}
	}
}
