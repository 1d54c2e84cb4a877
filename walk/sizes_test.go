package walk_test

import (
	"math"
	"testing"

	"toolchest/api"
	"toolchest/tree"
)

// step, after: steps of the sample, at the depth 1.
func step(path string, node int) api.Step { return api.Step{Path: path, Node: node, Depth: 1} }

func after(s api.Step) api.Step {
	s.After = true
	return s
}

func at(depth int, s api.Step) api.Step {
	s.Depth = depth
	return s
}

// P18.2: of walks: files count where they are come to first, in whatever is around them; a link counts its Target's bytes.
func TestSizesOfWalks(t *testing.T) {
	x := sample()
	l := stepsOf(t, x, master, "/", 9)
	// / d e e^ g h m s x s^ d^ f l m u v w y w^ u^ z /^
	wantSizes(t, "all", x, l, 0, 0, 0, 0, 5, 0, 7, 0, 2, 2, 14, 0, 1, 0, 0, 3, 0, 0, 0, 3, 1, 19)
	// / d d^ f l m u u^ z /^
	wantSizes(t, "what is in the root", x, stepsOf(t, x, master, "/", 1), 0, 0, 0, 5, 1, 7, 0, 0, 1, 14)
	wantSizes(t, "what guest may", x, stepsOf(t, x, guest, "u", 9), 0, 0)
	wantSizes(t, "a file", x, stepsOf(t, x, master, "d/g", 9), 5)
	wantSizes(t, "a link", x, stepsOf(t, x, master, "m", 9), 7)
	wantSizes(t, "an empty file", x, stepsOf(t, x, master, "u/w/y", 9), 0)
	wantSizes(t, "no steps", x, nil)
	// Walks side by side: what the first one told is not counted again.
	two := append(stepsOf(t, x, master, "d/s", 9), stepsOf(t, x, master, "d", 9)...)
	wantSizes(t, "d/s and d", x, two, 0, 2, 2, 0, 0, 0, 5, 0, 7, 0, 0, 0, 12)
	same := append(stepsOf(t, x, master, "d/s", 9), stepsOf(t, x, master, "d/s", 9)...)
	wantSizes(t, "d/s twice", x, same, 0, 2, 2, 0, 0, 0)
}

// P18.2: a tree that may not be, and steps of nodes that there are not.
func TestSizesOfNone(t *testing.T) {
	x := sample()
	l := stepsOf(t, x, master, "d", 9)
	x.Nodes[nG].Links++
	wantSizes(t, "a tree that may not be", x, l, make([]int, len(l))...)
	wantSizes(t, "no tree", api.Tree{}, l, make([]int, len(l))...)
	wantSizes(t, "no tree, no steps", api.Tree{}, nil)
	x = sample()
	wantSizes(t, "nodes that there are not", x, []api.Step{{}, {After: true}, step("f", nFree), step("f", len(x.Nodes)), step("f", -1), step("f", math.MaxInt), step("f", math.MinInt), after(step("f", -nD))}, 0, 0, 0, 0, 0, 0, 0, 0)
	d := step("d", nD)
	wantSizes(t, "nodes that there are not, within", x, []api.Step{d, step("a", nFree), step("b", 99), step("g", nG), step("c", -1), after(d)}, 0, 0, 0, 5, 0, 5)
	// Of a tree that is another than the one that was walked through.
	wantSizes(t, "a walk of another tree", small(), stepsOf(t, x, master, "d", 9), 0, 5, 0, 0, 0, 0, 0, 0, 0, 5)
	wantSizes(t, "a walk of another tree", tree.New(), stepsOf(t, x, master, "d", 9), make([]int, 10)...)
}

// P18.2: what is no directory counts at its first step, whatever its other fields are.
func TestSizesOfFiles(t *testing.T) {
	x := sample()
	g := step("g", nG)
	wantSizes(t, "a file by several names", x, []api.Step{g, step("h", nG), at(7, g), after(g), g}, 5, 0, 0, 0, 0)
	wantSizes(t, "with After", x, []api.Step{after(g), g, after(g)}, 5, 0, 0)
	wantSizes(t, "other paths, other depths", x, []api.Step{{Node: nG, Depth: -1}, {Node: nX, Path: "no such path", Depth: math.MinInt}, {Node: nM}, {Node: nM, Depth: math.MaxInt}, {Node: nG}}, 5, 2, 7, 0, 0)
	wantSizes(t, "files and links", x, []api.Step{step("", nY), step("", nY), step("", nV), step("", nL), step("", nLoop), step("", nL)}, 0, 0, 3, 1, 1, 0)
}

// P18.2: directories' steps, with and without After, in any order.
func TestSizesOfDirectories(t *testing.T) {
	x := sample()
	d, g, v, m := step("d", nD), step("d/g", nG), step("d/v", nV), step("d/m", nM)
	for _, c := range []struct {
		what string
		l    []api.Step
		want []int
	}{
		{"without After", []api.Step{d, g, d}, []int{0, 5, 0}},
		{"with After", []api.Step{d, g, after(d)}, []int{0, 5, 5}},
		{"with nothing in it", []api.Step{g, d, after(d), v}, []int{5, 0, 0, 3}},
		{"what is ahead does not count, what is behind neither", []api.Step{g, d, v, after(d), m}, []int{5, 0, 3, 3, 7}},
		{"what was told ahead does not count", []api.Step{g, d, g, v, after(d)}, []int{5, 0, 0, 3, 3}},
		{"with After twice", []api.Step{d, g, after(d), after(d)}, []int{0, 5, 5, 0}},
		{"with After twice, with something between", []api.Step{d, g, after(d), v, after(d)}, []int{0, 5, 5, 3, 0}},
		{"without one ahead", []api.Step{after(d)}, []int{0}},
		{"without one ahead, but files", []api.Step{g, v, after(d)}, []int{5, 3, 0}},
		{"with After ahead", []api.Step{after(d), d, g, after(d)}, []int{0, 0, 5, 5}},
		{"with one behind it", []api.Step{g, after(d), v, d}, []int{5, 0, 3, 0}},
		{"begun twice: from the last one on", []api.Step{d, g, d, v, after(d)}, []int{0, 5, 0, 3, 3}},
		{"begun twice, with After twice", []api.Step{d, g, d, v, after(d), after(d)}, []int{0, 5, 0, 3, 3, 0}},
		{"begun again behind After", []api.Step{d, g, after(d), d, v, after(d)}, []int{0, 5, 5, 0, 3, 3}},
		{"another Path", []api.Step{d, g, after(step("./d", nD)), after(d)}, []int{0, 5, 0, 5}},
		{"another Depth", []api.Step{d, g, at(2, after(d)), after(d)}, []int{0, 5, 0, 5}},
		{"another node", []api.Step{d, g, after(step("d", nE)), after(d)}, []int{0, 5, 0, 5}},
		{"another node that is no directory", []api.Step{d, g, after(step("d", nV)), after(d)}, []int{0, 5, 3, 8}},
		{"another node that there is not", []api.Step{d, g, after(step("d", 99)), after(d)}, []int{0, 5, 0, 5}},
		{"another Path begun between", []api.Step{d, g, step("e", nD), v, after(d), after(step("e", nD))}, []int{0, 5, 0, 3, 8, 3}},
		{"another Depth begun between", []api.Step{d, g, at(0, d), v, after(d), after(at(0, d))}, []int{0, 5, 0, 3, 8, 3}},
		{"a depth below 0, and no path", []api.Step{{Node: nD, Depth: -5}, g, {Node: nD, Depth: -5, After: true}}, []int{0, 5, 5}},
		{"one within the other", []api.Step{d, g, step("d/s", nS), v, after(step("d/s", nS)), m, after(d)}, []int{0, 5, 0, 3, 3, 7, 15}},
		{"one into the other", []api.Step{d, g, step("d/s", nS), v, after(d), m, after(step("d/s", nS))}, []int{0, 5, 0, 3, 8, 7, 10}},
		{"what directories tell is not added", []api.Step{step("/", nRoot), d, step("d/s", nS), v, after(step("d/s", nS)), after(d), after(step("/", nRoot))}, []int{0, 0, 0, 3, 3, 3, 3}},
		{"not told of what is not in it", []api.Step{step("u", nU), g, after(step("u", nU))}, []int{0, 5, 5}},
	} {
		wantSizes(t, c.what, x, c.l, c.want...)
	}
}

// P18.2: as many bytes as may be.
func TestSizesOfFullFiles(t *testing.T) {
	x := tree.New()
	for i := range api.MaxTree / api.MaxFile {
		d := add(&x, nRoot, string(rune('a'+i)), dirOf(0o755))
		add(&x, d, "f", api.Node{Kind: api.NoFile, Data: make([]byte, api.MaxFile)})
	}
	l := stepsOf(t, x, master, "/", 9)
	n := sizes(t, x, l)
	for i, s := range l {
		want := 0
		switch {
		case s.Depth == 0 && s.After:
			want = api.MaxTree
		case s.Depth == 2 || s.After:
			want = api.MaxFile
		}
		if n[i] != want {
			t.Errorf("%+v: %d, want %d", s, n[i], want)
		}
	}
}
