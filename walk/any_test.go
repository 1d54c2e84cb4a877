package walk_test

import (
	"math"
	"math/rand"
	"slices"
	"strconv"
	"strings"
	"testing"
	"time"

	"toolchest/api"
	"toolchest/calls"
	"toolchest/perms"
	"toolchest/tree"
	"toolchest/walk"
)

// randomTree: with directories that not everybody may go into, files and links by several names, numbers that are free.
func randomTree(r *rand.Rand) api.Tree {
	x := tree.New()
	modes := []int{0o755, 0o755, 0o755, 0o700, 0o750, 0o711, 0o744, 0o071, 0o000, 0o777}
	x.Nodes[nRoot].Mode = modes[r.Intn(len(modes))]
	dirs, others := []int{nRoot}, []int{}
	names := []string{"a", "b", "c", "ab", "...", "\xff", "A", "z z"}
	for range r.Intn(20) {
		if r.Intn(8) == 0 {
			x.Nodes = append(x.Nodes, api.Node{})
			continue
		}
		to, called := dirs[r.Intn(len(dirs))], names[r.Intn(len(names))]
		if slices.ContainsFunc(x.Nodes[to].List, func(e api.Entry) bool { return e.Name == called }) {
			continue
		}
		switch kind := r.Intn(5); {
		case kind == 0 && len(others) > 0:
			name(&x, to, called, others[r.Intn(len(others))])
		case kind == 1:
			others = append(others, add(&x, to, called, fileOf(strings.Repeat("x", r.Intn(40)))))
		case kind == 2:
			others = append(others, add(&x, to, called, linkTo([]string{"a", "a/", "/", "../b", "."}[r.Intn(5)])))
		default:
			dirs = append(dirs, add(&x, to, called, ownedBy(5+r.Intn(2), 7+r.Intn(2), dirOf(modes[r.Intn(len(modes))]))))
		}
	}
	for x.Nodes[len(x.Nodes)-1].Kind == api.NoNone {
		x.Nodes = x.Nodes[:len(x.Nodes)-1]
	}
	return x
}

// somebody who may be in a tree.
func somebody(r *rand.Rand, x api.Tree) api.Env {
	dirs := []int{nRoot}
	for i, n := range x.Nodes {
		if n.Kind == api.NoDir {
			dirs = append(dirs, i)
		}
	}
	return api.Env{User: []int{0, 0, 5, 6, 9}[r.Intn(5)], Group: []int{0, 7, 8}[r.Intn(3)], Mask: r.Intn(512), Dir: dirs[r.Intn(len(dirs))]}
}

func randomPath(r *rand.Rand) string {
	parts := []string{"a", "b", "c", "ab", "...", "\xff", "A", ".", "..", "x"}
	p := []string{"", "/", "/", "//"}[r.Intn(4)]
	for range r.Intn(3) {
		p += parts[r.Intn(len(parts))] + []string{"", "/", "/", "//"}[r.Intn(4)]
	}
	return p
}

func randomDeepest(r *rand.Rand) int {
	return []int{-1, 0, 1, 2, 3, 4, 32, math.MaxInt, math.MinInt}[r.Intn(9)]
}

// P18.1 to P18.3: trees, people and paths of all kinds, held against the slow readings.
func TestAny(t *testing.T) {
	r := rand.New(rand.NewSource(18))
	walks, shuts := 0, 0
	for range 20000 {
		x := randomTree(r)
		e := somebody(r, x)
		path, deepest := randomPath(r), randomDeepest(r)
		l, shut, err := both(t, x, e, path, deepest)
		if err != api.OK {
			if len(l) != 0 || len(shut) != 0 {
				t.Fatalf("Walk(%q): %d, and %s; %q", path, err, told(l), shut)
			}
			continue
		}
		walks++
		shuts += len(shut)
		sizes(t, x, l)
		follows(t, x, e, l, shut, deepest)
	}
	if walks < 5000 || shuts < 500 {
		t.Errorf("just %d walks, %d shut", walks, shuts)
	}
}

// follows: P18.3: each directory's step has one with After behind it; what is between them is within it; all the paths are unlike. And what is told is what calls tell, too.
func follows(t *testing.T, x api.Tree, e api.Env, l []api.Step, shut []string, deepest int) {
	t.Helper()
	var open []api.Step
	paths := map[string]int{}
	for i, s := range l {
		if s.After {
			if len(open) == 0 || after(open[len(open)-1]) != s {
				t.Fatalf("step %d ends what it should not: %s", i, told(l))
			}
			open = open[:len(open)-1]
			continue
		}
		paths[s.Path]++
		if paths[s.Path] > 1 || s.Depth != len(open) || i > 0 && s.Depth == 0 || s.Depth > max(deepest, 0) {
			t.Fatalf("step %d: %s", i, told(l))
		}
		for _, up := range open {
			if !strings.HasPrefix(s.Path, up.Path) || len(s.Path) <= len(up.Path) {
				t.Fatalf("step %d is not within %q: %s", i, up.Path, told(l))
			}
		}
		st, err := calls.Stat(x, e, s.Path, false)
		if err != api.OK || st.Node != s.Node {
			t.Fatalf("step %d: its Path leads to %d, %d: %s", i, st.Node, err, told(l))
		}
		if st.Kind == api.NoDir {
			open = append(open, s)
			listedAll(t, x, e, l[i:], slices.Contains(shut, s.Path), deepest)
		}
	}
	if len(open) > 0 {
		t.Fatalf("%d are not ended: %s", len(open), told(l))
	}
}

// listedAll: whether what is between the first step, a directory's, and its end is one step for each name that calls.List tells, if it is gone into.
func listedAll(t *testing.T, x api.Tree, e api.Env, l []api.Step, shut bool, deepest int) {
	t.Helper()
	dir, want := l[0], []string(nil)
	names, err := calls.List(x, e, dir.Path)
	_, mayNot := calls.Chdir(x, e, dir.Path)
	may := err == api.OK && mayNot == api.OK
	if shut != (!may && dir.Depth < deepest) {
		t.Fatalf("%q shut: %v", dir.Path, shut)
	}
	if may && dir.Depth < deepest {
		want = names
	}
	var got []string
	for _, s := range l[1:] {
		if s == after(dir) {
			break
		}
		if s.Depth == dir.Depth+1 && !s.After {
			got = append(got, strings.TrimPrefix(s.Path[len(dir.Path):], "/"))
		}
	}
	if !slices.Equal(got, want) {
		t.Fatalf("in %q: %q, want %q", dir.Path, got, want)
	}
}

// P0.2: what is in directories that somebody may not read makes no difference to what they are told.
func TestNotTold(t *testing.T) {
	r := rand.New(rand.NewSource(182))
	for range 5000 {
		x := randomTree(r)
		e := somebody(r, x)
		e.Dir = nRoot
		other := api.Tree{Now: x.Now, Nodes: slices.Clone(x.Nodes)}
		changed := false
		for i, n := range x.Nodes {
			if n.Kind == api.NoDir && !perms.May(n, e, 4) && len(n.List) < 8 {
				secret := fileOf("secret")
				add(&other, i, "secret"+strconv.Itoa(i), secret)
				changed = true
			}
		}
		if !changed {
			continue
		}
		l, shut, err := both(t, x, e, "/", 99)
		l2, shut2, err2 := both(t, other, e, "/", 99)
		if !slices.Equal(l, l2) || !slices.Equal(shut, shut2) || err != err2 {
			t.Fatalf("%s; %q\nwith more in it\n%s; %q", told(l), shut, told(l2), shut2)
		}
	}
}

// P18.2: a walk of the user 0 through all of a tree tells, in the end, the bytes of all files and of what all links say; and each directory that is told alone what it tells within, if nothing is there by several names.
func TestSizesOfAll(t *testing.T) {
	r := rand.New(rand.NewSource(1822))
	for range 3000 {
		x := randomTree(r)
		_, want := tree.Sizes(x)
		once := true
		for _, n := range x.Nodes {
			want += len(n.Target)
			once = once && (n.Kind == api.NoDir || n.Links <= 1)
		}
		l := stepsOf(t, x, master, "/", 99)
		n := sizes(t, x, l)
		if n[len(n)-1] != want {
			t.Fatalf("%d bytes, want %d: %s", n[len(n)-1], want, told(l))
		}
		for i, s := range l {
			if !once || !s.After {
				continue
			}
			alone := sizes(t, x, stepsOf(t, x, master, s.Path, 99))
			if n[i] != alone[len(alone)-1] {
				t.Fatalf("%q: %d, alone %d", s.Path, n[i], alone[len(alone)-1])
			}
		}
	}
}

// randomSteps: some of them as walks tell them, in any order.
func randomSteps(r *rand.Rand, x api.Tree) []api.Step {
	out, _, _ := walk.Walk(x, master, "/", r.Intn(4))
	for range r.Intn(6) {
		switch at := r.Intn(len(out) + 1); {
		case r.Intn(4) == 0:
			out = append(out, out...)
		case at == len(out) || r.Intn(3) == 0:
			out = slices.Insert(out, at, api.Step{Path: []string{"", "/", "/a", "/b"}[r.Intn(4)], Node: r.Intn(len(x.Nodes)+2) - 1, Depth: r.Intn(4) - 1, After: r.Intn(2) == 0})
		case r.Intn(2) == 0:
			out = slices.Delete(out, at, at+1)
		case r.Intn(2) == 0:
			out[at].After = !out[at].After
		default:
			to := r.Intn(len(out))
			out[at], out[to] = out[to], out[at]
		}
	}
	return out[:min(len(out), 60)]
}

// P18.2: any steps, held against the slow reading; of trees that may be, and others.
func TestAnySizes(t *testing.T) {
	r := rand.New(rand.NewSource(183))
	ended := 0
	for i := range 6000 {
		x := randomTree(r)
		l := randomSteps(r, x)
		if i%10 == 0 {
			spoil(r, &x)
		}
		for k, n := range sizes(t, x, l) {
			if n > 0 && l[k].After {
				ended++
			}
		}
	}
	if ended < 3000 {
		t.Errorf("just %d directories with something in them", ended)
	}
}

// spoil: something of a tree is set to what may or may not be.
func spoil(r *rand.Rand, x *api.Tree) {
	if len(x.Nodes) == 0 {
		return
	}
	number := []int{-1, 0, 1, 2, 3, 4, 7, 512, math.MaxInt, math.MinInt}[r.Intn(10)]
	n := &x.Nodes[r.Intn(len(x.Nodes))]
	switch r.Intn(12) {
	case 0:
		n.Kind = api.NodeKind(r.Intn(6))
	case 1:
		n.Mode = number
	case 2:
		n.User = number
	case 3:
		n.Links = number
	case 4:
		n.Time = number
	case 5:
		n.Data = []byte("data")
	case 6:
		n.Target = "/"
	case 7:
		n.Parent = number
	case 8:
		n.List = append(slices.Clone(n.List), api.Entry{Name: []string{"", "z", ".", "a/b"}[r.Intn(4)], Node: number})
	case 9:
		x.Nodes = append(slices.Clone(x.Nodes), api.Node{})
	case 10:
		x.Now = number
	case 11:
		x.Nodes = slices.Clone(x.Nodes[:len(x.Nodes)-1])
	}
}

// R1: trees, people, paths and steps such as none of the calls makes: every call ends, and none panics.
func TestWild(t *testing.T) {
	r := rand.New(rand.NewSource(181))
	numbers := []int{0, 1, 2, 3, -1, 7, 65535, 65536, math.MaxInt, math.MinInt}
	number := func() int { return numbers[r.Intn(len(numbers))] }
	for range 20000 {
		x := randomTree(r)
		if r.Intn(4) == 0 {
			x = api.Tree{Nodes: make([]api.Node, r.Intn(6))}
		}
		for range r.Intn(8) {
			spoil(r, &x)
		}
		e := api.Env{User: number(), Group: number(), Mask: number(), Dir: number()}
		both(t, x, e, randomPath(r), number())
		var l []api.Step
		for range r.Intn(8) {
			l = append(l, api.Step{Path: randomPath(r), Node: number(), Depth: number(), After: r.Intn(2) == 0})
		}
		sizes(t, x, l)
	}
}

// R1: a directory that lists itself, or what it is in, is not gone round.
func TestRings(t *testing.T) {
	for _, back := range []int{nRoot, 2, 3} {
		x := chain(3, 1)
		x.Nodes[4].List = []api.Entry{{Name: "x", Node: back}}
		x.Nodes[4].Links++
		wantErr(t, x, master, "/", math.MaxInt, api.ErrArg)
		wantSizes(t, "a ring", x, []api.Step{step("/", nRoot), step("x", back), after(step("/", nRoot))}, 0, 0, 0)
	}
}

// R1: many steps, and what is far beyond any limit, are answered soon.
func TestFarBeyond(t *testing.T) {
	begin := time.Now()
	x := full()
	one := stepsOf(t, x, master, "/", 9)
	var l []api.Step
	for len(l) < 1<<20 {
		l = append(l, one...)
	}
	n := walk.Sizes(x, l)
	if n[len(one)-1] != 507 || n[len(n)-1] != 0 || len(n) != len(l) {
		t.Errorf("%d, %d", n[len(one)-1], n[len(n)-1])
	}
	// One directory begun and ended, and begun ever deeper.
	for i := range l {
		l[i] = api.Step{Path: "d", Node: 2, Depth: i % (len(l) / 2), After: i >= len(l)/2}
	}
	walk.Sizes(x, l)
	long := strings.Repeat("p/", 1<<24)
	if _, _, err := walk.Walk(x, master, long, math.MaxInt); err != api.ErrName {
		t.Errorf("a long path: %d", err)
	}
	walk.Sizes(x, []api.Step{{Path: long, Node: 2}, {Path: long, Node: 2, After: true}})
	x.Nodes = append(x.Nodes, make([]api.Node, 1<<16)...)
	if _, _, err := walk.Walk(x, master, "/", math.MaxInt); err != api.ErrArg {
		t.Errorf("many nodes: %d", err)
	}
	if d := time.Since(begin); d > 30*time.Second {
		t.Errorf("it took %v", d)
	}
}

// R4: what is handed in is not changed, its spare room neither, whether the tree may be or not.
func TestNotChanged(t *testing.T) {
	r := rand.New(rand.NewSource(4))
	for i := range 3000 {
		x := randomTree(r)
		if i == 0 {
			x = sample()
		} else if i%3 == 0 {
			spoil(r, &x)
		}
		x = roomy(x)
		was := whole(x)
		for _, p := range []string{"/", "d", "a", "", "x"} {
			walk.Walk(x, somebody(r, x), p, randomDeepest(r))
		}
		l := append(randomSteps(r, sample()), api.Step{Path: "spare", Node: 2, Depth: 9})
		wasSteps := slices.Clone(l)
		walk.Sizes(x, l[:len(l)-1])
		if !sameTree(whole(x), was) || !slices.Equal(l, wasSteps) {
			t.Fatalf("changed: %+v, was %+v; %s, was %s", whole(x), was, told(l), told(wasSteps))
		}
	}
}

// overwrite: a list, with its spare room, is written over.
func overwrite[T any](l []T, with T) {
	l = l[:cap(l)]
	for i := range l {
		l[i] = with
	}
}

// R4: what is answered is new memory, its spare room too: it shares none with another answer, with the tree or with the steps.
func TestShareNothing(t *testing.T) {
	x := sample()
	was := whole(x)
	l, shut, _ := walk.Walk(x, guest, "/", 9)
	l2, shut2, _ := walk.Walk(x, guest, "/", 9)
	want, wantShut := slices.Clone(l), slices.Clone(shut)
	n, n2 := walk.Sizes(x, l), walk.Sizes(x, l)
	wantN := slices.Clone(n)
	overwrite(l, api.Step{Path: "####", Node: 99})
	overwrite(shut, "####")
	overwrite(n, -7)
	if !slices.Equal(l2, want) || !slices.Equal(shut2, wantShut) || !slices.Equal(n2, wantN) || !sameTree(whole(x), was) {
		t.Errorf("%s; %q; %v", told(l2), shut2, n2)
	}
	// Behind a change of the tree, what was told stays.
	for i := range x.Nodes {
		overwrite(x.Nodes[i].List, api.Entry{Name: "####"})
		x.Nodes[i] = api.Node{}
	}
	if !slices.Equal(l2, want) || !slices.Equal(shut2, wantShut) {
		t.Errorf("%s; %q", told(l2), shut2)
	}
}

// R4: lists that are empty are as none.
func TestEmptyLists(t *testing.T) {
	x := sample()
	y := roomy(x)
	for i := range y.Nodes {
		if len(y.Nodes[i].List) == 0 {
			y.Nodes[i].List = []api.Entry{}
		}
		if len(y.Nodes[i].Data) == 0 {
			y.Nodes[i].Data = []byte{}
		}
	}
	l := stepsOf(t, x, master, "/", 9)
	if l2 := stepsOf(t, y, master, "/", 9); !slices.Equal(l, l2) || !slices.Equal(sizes(t, x, l), sizes(t, y, l)) {
		t.Errorf("%s, want %s", told(l2), told(l))
	}
	wantSizes(t, "an empty list", x, []api.Step{})
	wantSizes(t, "an empty list of a tree that may not be", api.Tree{Nodes: []api.Node{}}, []api.Step{})
}

// R5: what is asked again is answered alike, whatever was asked between.
func TestAgain(t *testing.T) {
	x := sample()
	l, shut, _ := walk.Walk(x, guest, "/", 9)
	n := walk.Sizes(x, l)
	for i := range 20 {
		walk.Walk(small(), master, "/", i)
		walk.Walk(x, owner, "u", i)
		walk.Sizes(small(), l)
		walk.Sizes(x, l[:i%len(l)])
		l2, shut2, err := walk.Walk(x, guest, "/", 9)
		if !slices.Equal(l, l2) || !slices.Equal(shut, shut2) || err != api.OK || !slices.Equal(walk.Sizes(x, l), n) {
			t.Fatalf("%s; %q; %d, want %s; %q", told(l2), shut2, err, told(l), shut)
		}
	}
}
