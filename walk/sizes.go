package walk

import (
	"toolchest/api"
	"toolchest/tree"
)

// Sizes: of a walk's steps: the bytes of all files below, each node once. (P18.2)
func Sizes(t api.Tree, l []api.Step) []int {
	sizes := make([]int, len(l))
	if !tree.Check(t) {
		return sizes
	}
	sum := tally{met: make([]bool, len(t.Nodes)), begun: map[api.Step]int{}}
	for i, s := range l {
		n := nodeOf(t, s.Node)
		switch {
		case n.Kind == api.NoNone:
		case n.Kind != api.NoDir:
			sizes[i] = sum.add(s.Node, n)
		case s.After:
			sizes[i] = sum.end(s)
		default:
			sum.begun[s] = sum.bytes
		}
	}
	return sizes
}

// nodeOf: a node of a tree that may be; one that is free, if there is none.
func nodeOf(t api.Tree, number int) api.Node {
	if number < 0 || number >= len(t.Nodes) {
		return api.Node{}
	}
	return t.Nodes[number]
}

// tally is what the steps so far tell.
type tally struct {
	bytes int              // of all that is no directory
	met   []bool           // the nodes of these
	begun map[api.Step]int // the directories' steps that have none with After behind them yet: the bytes ahead of them
}

// add: the size of what is no directory, if it was not come to by another name.
func (y *tally) add(number int, n api.Node) int {
	if y.met[number] {
		return 0
	}
	y.met[number] = true
	size := sizeOf(n)
	y.bytes += size
	return size
}

// end: the bytes since a directory's step began. It is forgotten: one more step with After ends nothing.
func (y *tally) end(s api.Step) int {
	s.After = false
	ahead, ok := y.begun[s]
	if !ok {
		return 0
	}
	delete(y.begun, s)
	return y.bytes - ahead
}

// sizeOf: of what is no directory, as tree.Stat tells it: a file has no Target, a link no Data. (tree.Stat would ask of the whole tree again whether it may be, at each step.)
func sizeOf(n api.Node) int { return len(n.Data) + len(n.Target) }
