package calls

import (
	"cmp"
	"strings"

	"toolchest/api"
	"toolchest/perms"
	"toolchest/tree"
)

const linkMode = 0o777

func (a *act) write() (api.Tree, api.Errno) { return a.fill(nil) }

func (a *act) lengthen() (api.Tree, api.Errno) { return a.fill(a.here().Data) }

// fill: a file's content is what is ahead, and Data.
func (a *act) fill(ahead []byte) (api.Tree, api.Errno) {
	data, file := a.call.Data, a.here()
	long := len(ahead) + len(data)
	_, bytes := tree.Sizes(a.tree)
	if err := cmp.Or(
		when(len(data) > api.MaxFile, api.ErrBig),
		when(isNameless(a.at) || isDir(file) || isNone(file) && a.at.Dirs, api.ErrDir),
		a.mayFill(),
		when(long > api.MaxFile, api.ErrBig),
		when(bytes-len(file.Data)+long > api.MaxTree, api.ErrFull),
	); err != api.OK {
		return api.Tree{}, err
	}
	out := a.copied()
	number := a.at.Node
	if isNone(file) {
		number = out.add(a.at, a.newNode(api.NoFile))
	}
	out.Nodes[number].Data = append(copyOf(ahead), data...)
	out.Nodes[number].Time = out.Now
	return out.Tree, api.OK
}

// mayFill: a file that is there, or a new one.
func (a *act) mayFill() api.Errno {
	if isNone(a.here()) {
		return cmp.Or(a.mayCome(a.at.Dir), a.hasFree())
	}
	return a.mayWrite(a.at.Node)
}

func (a *act) mkdir() (api.Tree, api.Errno) {
	if err := cmp.Or(
		when(isNameless(a.at) || !isNone(a.here()), api.ErrThere),
		a.mayCome(a.at.Dir),
		when(tree.Depth(a.tree, a.at.Dir) >= api.MaxDeep, api.ErrLimit),
		a.hasFree(),
	); err != api.OK {
		return api.Tree{}, err
	}
	out := a.copied()
	out.add(a.at, a.newNode(api.NoDir))
	return out.Tree, api.OK
}

func (a *act) rmdir() (api.Tree, api.Errno) {
	if err := cmp.Or(
		when(isNameless(a.at), api.ErrBusy),
		when(isNone(a.here()), api.ErrNone),
		when(!isDir(a.here()), api.ErrNotDir),
		when(a.isBusy(a.at.Node), api.ErrBusy),
		a.mayWrite(a.at.Dir),
	); err != api.OK {
		return api.Tree{}, err
	}
	return a.removed(), api.OK
}

func (a *act) unlink() (api.Tree, api.Errno) {
	if err := cmp.Or(
		when(isNameless(a.at), api.ErrDir),
		when(isNone(a.here()), api.ErrNone),
		when(isDir(a.here()), api.ErrDir),
		a.mayWrite(a.at.Dir),
	); err != api.OK {
		return api.Tree{}, err
	}
	return a.removed(), api.OK
}

// removed: without what is at Path.
func (a *act) removed() api.Tree {
	out := a.copied()
	out.unlist(a.at)
	out.lose(a.at.Node)
	return out.Tree
}

func (a *act) link() (api.Tree, api.Errno) {
	if err := cmp.Or(
		when(isNameless(a.at), api.ErrDir),
		when(isNone(a.here()), api.ErrNone),
		when(isDir(a.here()), api.ErrDir),
		a.mayName(),
	); err != api.OK {
		return api.Tree{}, err
	}
	out := a.copied()
	out.list(a.to, a.at.Node)
	out.Nodes[a.at.Node].Links++
	return out.Tree, api.OK
}

// mayName: what is no directory by the new name Other.
func (a *act) mayName() api.Errno {
	return cmp.Or(
		when(isNameless(a.to) || !isNone(a.there()), api.ErrThere),
		when(a.to.Dirs, api.ErrNone),
		a.mayCome(a.to.Dir))
}

func (a *act) symlink() (api.Tree, api.Errno) {
	target := a.call.Path
	if err := cmp.Or(
		when(target == "", api.ErrNone),
		when(len(target) > api.MaxPath || strings.IndexByte(target, 0) >= 0, api.ErrName),
		a.mayName(),
		a.hasFree(),
	); err != api.OK {
		return api.Tree{}, err
	}
	out := a.copied()
	n := a.newNode(api.NoLink)
	n.Mode, n.Target = linkMode, target
	out.add(a.to, n)
	return out.Tree, api.OK
}

func (a *act) rename() (api.Tree, api.Errno) {
	if err := cmp.Or(
		when(isNameless(a.at) || isNameless(a.to), api.ErrBusy),
		when(isNone(a.here()), api.ErrNone),
	); err != api.OK {
		return api.Tree{}, err
	}
	if a.at.Node == a.to.Node {
		return a.copied().Tree, api.OK
	}
	if err := cmp.Or(a.mayTakePlace(), a.mayMove()); err != api.OK {
		return api.Tree{}, err
	}
	out := a.copied()
	if a.to.Node != 0 {
		out.unlist(a.to)
		out.lose(a.to.Node)
	}
	out.unlist(a.at)
	out.list(a.to, a.at.Node)
	return out.Tree, api.OK
}

// mayTakePlace: what Path leads to the place of Other, as far as it hangs on what both are.
func (a *act) mayTakePlace() api.Errno {
	other := a.there()
	if !isDir(a.here()) {
		return cmp.Or(
			when(isDir(other), api.ErrDir),
			when(isNone(other) && a.to.Dirs, api.ErrNotDir))
	}
	_, into := a.stepsUp(a.to.Dir, a.at.Node)
	return cmp.Or(
		when(into, api.ErrInto),
		when(!isNone(other) && !isDir(other), api.ErrNotDir),
		when(isDir(other) && a.isBusy(a.to.Node), api.ErrBusy),
		when(tree.Depth(a.tree, a.to.Dir)+1+a.height(a.at.Node) > api.MaxDeep, api.ErrLimit))
}

// mayMove: a name from Path's directory to Other's. How many names there are in all stays the same, or is less.
func (a *act) mayMove() api.Errno {
	full := len(a.tree.Nodes[a.to.Dir].List) >= api.MaxNodes
	return cmp.Or(
		a.mayWrite(a.at.Dir),
		a.mayWrite(a.to.Dir),
		when(isNone(a.there()) && a.to.Dir != a.at.Dir && full, api.ErrFull))
}

// stepsUp: how many lead from a directory up to another one; false, if it is not within that.
func (a *act) stepsUp(from, to int) (int, bool) {
	steps := 0
	for from != to && from > root {
		from = a.tree.Nodes[from].Parent
		steps++
	}
	return steps, from == to
}

// height: how deep the deepest directory is within one.
func (a *act) height(dir int) int {
	high := 0
	for i, n := range a.tree.Nodes {
		if !isDir(n) {
			continue
		}
		if steps, within := a.stepsUp(i, dir); within {
			high = max(high, steps)
		}
	}
	return high
}

func (a *act) chmod() (api.Tree, api.Errno) {
	n := a.here()
	if err := cmp.Or(
		when(isNone(n), api.ErrNone),
		when(!perms.Owns(n, a.call.Env), api.ErrPerm),
	); err != api.OK {
		return api.Tree{}, err
	}
	out := a.copied()
	out.Nodes[a.at.Node].Mode = a.call.Mode
	return out.Tree, api.OK
}

func (a *act) chown() (api.Tree, api.Errno) {
	n, c := a.here(), a.call
	user, group := told(c.User, n.User), told(c.Group, n.Group)
	givesAway := user != n.User || group != n.Group && group != c.Env.Group
	if err := cmp.Or(
		when(isNone(n), api.ErrNone),
		when(c.Env.User != 0 && (givesAway || !perms.Owns(n, c.Env)), api.ErrPerm),
	); err != api.OK {
		return api.Tree{}, err
	}
	out := a.copied()
	out.Nodes[a.at.Node].User = user
	out.Nodes[a.at.Node].Group = group
	return out.Tree, api.OK
}

// told: a number, or what was, if none is told.
func told(n, was int) int {
	if n == asItWas {
		return was
	}
	return n
}

func (a *act) touch() (api.Tree, api.Errno) {
	n := a.here()
	if err := cmp.Or(
		when(isNone(n), api.ErrNone),
		when(!perms.Owns(n, a.call.Env) && !perms.May(n, a.call.Env, write), api.ErrPerm),
	); err != api.OK {
		return api.Tree{}, err
	}
	out := a.copied()
	out.Nodes[a.at.Node].Time = told(a.call.Time, out.Now)
	return out.Tree, api.OK
}

func (a *act) tick() (api.Tree, api.Errno) {
	out := a.copied()
	out.Now = min(out.Now+a.call.Time, api.MaxTime)
	return out.Tree, api.OK
}
