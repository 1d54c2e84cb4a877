package calls

import (
	"cmp"

	"toolchest/api"
	"toolchest/paths"
	"toolchest/perms"
	"toolchest/tree"
)

const (
	root     = 1
	maxMode  = 0o777
	maxOwner = 65535
	asItWas  = -1               // a User, a Group, a Time that is not told
	maxNames = 4 * api.MaxNodes // of all directories together
)

// Fields that a call may have.
const (
	hasPath = 1 << iota
	hasOther
	hasMode
	hasOwner
	hasTime
	hasData
)

// row is what calls of a kind have, and whether their Path is looked for and followed. (Other is looked for wherever there is one, and never followed.)
type row struct {
	has            int
	looks, follows bool
}

var rows = [...]row{
	api.CaWrite:   {has: hasPath | hasMode | hasData, looks: true, follows: true},
	api.CaAppend:  {has: hasPath | hasMode | hasData, looks: true, follows: true},
	api.CaMkdir:   {has: hasPath | hasMode, looks: true},
	api.CaRmdir:   {has: hasPath, looks: true},
	api.CaUnlink:  {has: hasPath, looks: true},
	api.CaLink:    {has: hasPath | hasOther, looks: true},
	api.CaSymlink: {has: hasPath | hasOther},
	api.CaRename:  {has: hasPath | hasOther, looks: true},
	api.CaChmod:   {has: hasPath | hasMode, looks: true, follows: true},
	api.CaChown:   {has: hasPath | hasOwner, looks: true, follows: true},
	api.CaTouch:   {has: hasPath | hasTime, looks: true, follows: true},
	api.CaTick:    {has: hasTime},
}

// mayBe: whether a call may be, whatever its Env.
func mayBe(c api.Call) bool {
	if c.Kind == api.CaNone || int(c.Kind) >= len(rows) || fields(c)&^rows[c.Kind].has != 0 {
		return false
	}
	leastTime := asItWas
	if c.Kind == api.CaTick {
		leastTime = 0
	}
	return 0 <= c.Mode && c.Mode <= maxMode && isOwner(c.User) && isOwner(c.Group) && leastTime <= c.Time && c.Time <= api.MaxTime
}

func isOwner(n int) bool { return asItWas <= n && n <= maxOwner }

// fields: those that are not zero.
func fields(c api.Call) int {
	return when(c.Path != "", hasPath) |
		when(c.Other != "", hasOther) |
		when(c.Mode != 0, hasMode) |
		when(c.User != 0 || c.Group != 0, hasOwner) |
		when(c.Time != 0, hasTime) |
		when(len(c.Data) > 0, hasData)
}

// act is a call that may be, on a tree that may be. The tree is the one that was handed in: it is only asked; what changes is a copy of it.
type act struct {
	tree   api.Tree
	call   api.Call
	at, to paths.Place // of Path, of Other
}

// find: the paths, one behind the other.
func (a *act) find() api.Errno {
	its, c := rows[a.call.Kind], a.call
	err := api.OK
	if its.looks {
		a.at, err = paths.Find(a.tree, c.Env, c.Path, its.follows)
	}
	if err == api.OK && its.has&hasOther != 0 {
		a.to, err = paths.Find(a.tree, c.Env, c.Other, false)
	}
	return err
}

// kinds: what a call of each kind does.
func (a *act) kinds() [api.CaTick + 1]func() (api.Tree, api.Errno) {
	return [...]func() (api.Tree, api.Errno){
		api.CaWrite:   a.write,
		api.CaAppend:  a.lengthen,
		api.CaMkdir:   a.mkdir,
		api.CaRmdir:   a.rmdir,
		api.CaUnlink:  a.unlink,
		api.CaLink:    a.link,
		api.CaSymlink: a.symlink,
		api.CaRename:  a.rename,
		api.CaChmod:   a.chmod,
		api.CaChown:   a.chown,
		api.CaTouch:   a.touch,
		api.CaTick:    a.tick,
	}
}

// when: an error (or a bit), if something is so. (Of several errors, cmp.Or answers the first one.)
func when[T ~int](so bool, what T) T {
	if so {
		return what
	}
	return 0
}

// here, there: the nodes that Path and Other lead to; a free one, if there is none.
func (a *act) here() api.Node { return a.tree.Nodes[a.at.Node] }

func (a *act) there() api.Node { return a.tree.Nodes[a.to.Node] }

func isNameless(p paths.Place) bool { return p.Name == "" }

func isNone(n api.Node) bool { return n.Kind == api.NoNone }

func isDir(n api.Node) bool { return n.Kind == api.NoDir }

// mayWrite: a node, a directory whose names come or go.
func (a *act) mayWrite(node int) api.Errno {
	return when(!perms.May(a.tree.Nodes[node], a.call.Env, write), api.ErrPerm)
}

// mayCome: one name more into a directory.
func (a *act) mayCome(dir int) api.Errno {
	names := 0
	for _, n := range a.tree.Nodes {
		names += len(n.List)
	}
	return cmp.Or(
		a.mayWrite(dir),
		when(len(a.tree.Nodes[dir].List) >= api.MaxNodes || names >= maxNames, api.ErrFull))
}

// hasFree: a number for a new node.
func (a *act) hasFree() api.Errno {
	nodes, _ := tree.Sizes(a.tree)
	return when(nodes >= api.MaxNodes, api.ErrFull)
}

// isBusy: whether a directory may not be removed.
func (a *act) isBusy(dir int) bool {
	return len(a.tree.Nodes[dir].List) > 0 || dir == a.call.Env.Dir
}
