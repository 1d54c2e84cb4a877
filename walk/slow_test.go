package walk_test

import (
	"toolchest/api"
	"toolchest/paths"
	"toolchest/tree"
)

// slowWalk says once more what a walk tells: what is still to come waits in a list, of which the first one is taken.
func slowWalk(t api.Tree, e api.Env, path string, deepest int) ([]api.Step, []string, api.Errno) {
	p, err := paths.Find(t, e, path, false)
	if err != api.OK {
		return nil, nil, err
	}
	if p.Node == 0 {
		return nil, nil, api.ErrNone
	}
	var out []api.Step
	var shut []string
	todo := []api.Step{{Path: path, Node: p.Node}}
	for len(todo) > 0 {
		s := todo[0]
		todo = todo[1:]
		out = append(out, s)
		n := t.Nodes[s.Node]
		if n.Kind != api.NoDir || s.After {
			continue
		}
		var next []api.Step
		if s.Depth < deepest && slowMay(n, e) {
			for _, x := range n.List {
				to := s.Path + "/" + x.Name
				if s.Path[len(s.Path)-1] == '/' {
					to = s.Path + x.Name
				}
				next = append(next, api.Step{Path: to, Node: x.Node, Depth: s.Depth + 1})
			}
		} else if s.Depth < deepest {
			shut = append(shut, s.Path)
		}
		next = append(next, api.Step{Path: s.Path, Node: s.Node, Depth: s.Depth, After: true})
		todo = append(next, todo...)
	}
	return out, shut, api.OK
}

// slowMay: whether somebody may read a directory and go through it, by its mode's bits one by one.
func slowMay(n api.Node, e api.Env) bool {
	r, x := 0o004, 0o001
	if n.User == e.User {
		r, x = 0o400, 0o100
	} else if n.Group == e.Group {
		r, x = 0o040, 0o010
	}
	return e.User == 0 || n.Mode&r != 0 && n.Mode&x != 0
}

// slowSizes looks back from each step, as the document says it.
func slowSizes(t api.Tree, l []api.Step) []int {
	out := make([]int, len(l))
	for i := range l {
		switch slowKind(t, l[i].Node) {
		case api.NoFile, api.NoLink:
			out[i] = slowSize(t, l, i)
		case api.NoDir:
			if l[i].After {
				out[i] = slowSum(t, l, i, out)
			}
		}
	}
	return out
}

// slowKind: none, if the tree may not be.
func slowKind(t api.Tree, n int) api.NodeKind {
	s, _ := tree.Stat(t, n)
	return s.Kind
}

func slowSize(t api.Tree, l []api.Step, at int) int {
	for _, s := range l[:at] {
		if s.Node == l[at].Node {
			return 0
		}
	}
	s, _ := tree.Stat(t, l[at].Node)
	return s.Size
}

func slowSum(t api.Tree, l []api.Step, at int, told []int) int {
	sum := 0
	for i := at - 1; i >= 0; i-- {
		s := l[i]
		if s.Node == l[at].Node && s.Path == l[at].Path && s.Depth == l[at].Depth {
			if s.After {
				return 0
			}
			return sum
		}
		if slowKind(t, s.Node) != api.NoDir {
			sum += told[i]
		}
	}
	return 0
}
