package calls

import (
	"slices"
	"strings"

	"toolchest/api"
	"toolchest/paths"
)

// draft is a copy of a tree, which a call changes, and answers.
type draft struct{ api.Tree }

// copied: the tree in new memory, all of its lists, too.
func (a *act) copied() *draft {
	out := &draft{api.Tree{Nodes: copyOf(a.tree.Nodes), Now: a.tree.Now}}
	for i := range out.Nodes {
		n := &out.Nodes[i]
		n.Data, n.List = copyOf(n.Data), copyOf(n.List)
	}
	return out
}

// copyOf: a list in new memory; of an empty one none, so that nothing leads back to where it lay.
func copyOf[T any](list []T) []T {
	if len(list) == 0 {
		return nil
	}
	out := make([]T, len(list))
	copy(out, list)
	return out
}

// newNode: of who acts.
func (a *act) newNode(kind api.NodeKind) api.Node {
	who := a.call.Env
	n := api.Node{Kind: kind, Mode: a.call.Mode &^ who.Mask, User: who.User, Group: who.Group, Links: 1, Time: a.tree.Now}
	if kind == api.NoDir {
		n.Links = 2
	}
	return n
}

// add: a new node, with the least number that is free, and its name.
func (d *draft) add(p paths.Place, n api.Node) int {
	number := root + 1
	for number < len(d.Nodes) && d.Nodes[number].Kind != api.NoNone {
		number++
	}
	if number == len(d.Nodes) {
		d.Nodes = append(d.Nodes, api.Node{})
	}
	d.Nodes[number] = n
	d.list(p, number)
	return number
}

// list: a name comes into a directory. A directory that comes by it gets its Parent.
func (d *draft) list(p paths.Place, number int) {
	dir, n := &d.Nodes[p.Dir], &d.Nodes[number]
	at, _ := place(dir.List, p.Name)
	dir.List = slices.Insert(dir.List, at, api.Entry{Name: p.Name, Node: number})
	dir.Time = d.Now
	if n.Kind == api.NoDir {
		n.Parent = p.Dir
		dir.Links++
	}
}

// unlist: a name goes from a directory.
func (d *draft) unlist(p paths.Place) {
	dir := &d.Nodes[p.Dir]
	if at, ok := place(dir.List, p.Name); ok {
		dir.List = slices.Delete(dir.List, at, at+1)
	}
	dir.Time = d.Now
	if d.Nodes[p.Node].Kind == api.NoDir {
		dir.Links--
	}
}

// place: where a name stands, or would.
func place(list []api.Entry, name string) (int, bool) {
	return slices.BinarySearchFunc(list, name, func(e api.Entry, name string) int { return strings.Compare(e.Name, name) })
}

// lose: a node has lost a name. A directory has but one.
func (d *draft) lose(number int) {
	n := &d.Nodes[number]
	n.Links--
	if n.Links > 0 && n.Kind != api.NoDir {
		return
	}
	*n = api.Node{}
	last := len(d.Nodes) - 1
	for last > root && d.Nodes[last].Kind == api.NoNone {
		last--
	}
	d.Nodes = d.Nodes[:last+1]
}
