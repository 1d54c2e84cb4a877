package calls_test

import (
	"reflect"
	"slices"
	"strings"

	"toolchest/api"
	"toolchest/paths"
	"toolchest/perms"
	"toolchest/tree"
)

// slowNode, slowTree: a tree as nodes that point at each other; Links, Parent and the list's order are not kept, but counted and looked for when it is told.
type slowNode struct {
	api.Stat
	text  string // content, or target
	names map[string]*slowNode
}

type slowTree struct {
	nodes map[int]*slowNode
	now   int
}

func slowOf(t api.Tree) *slowTree {
	s := &slowTree{map[int]*slowNode{}, t.Now}
	for i, n := range t.Nodes {
		if n.Kind != api.NoNone {
			s.nodes[i] = &slowNode{Stat: api.Stat{Node: i, Kind: n.Kind, Mode: n.Mode, User: n.User, Group: n.Group, Time: n.Time}, text: string(n.Data) + n.Target, names: map[string]*slowNode{}}
		}
	}
	for i, n := range t.Nodes {
		for _, e := range n.List {
			s.nodes[i].names[e.Name] = s.nodes[e.Node]
		}
	}
	return s
}

// told: as a tree. A node that no directory has is not there any more.
func (s *slowTree) told() api.Tree {
	links := map[*slowNode]int{s.nodes[1]: 2}
	for _, d := range s.nodes {
		for _, n := range d.names {
			links[n]++
			if n.Kind == api.NoDir {
				links[d]++
				links[n]++
			}
		}
	}
	last := 0
	for i, n := range s.nodes {
		if links[n] > 0 {
			last = max(last, i)
		}
	}
	t := api.Tree{Nodes: make([]api.Node, last+1), Now: s.now}
	for i := 1; i <= last; i++ {
		n := s.nodes[i]
		if n == nil || links[n] == 0 {
			continue
		}
		out := api.Node{Kind: n.Kind, Mode: n.Mode, User: n.User, Group: n.Group, Time: n.Time, Links: links[n]}
		switch n.Kind {
		case api.NoFile:
			out.Data = []byte(n.text)
		case api.NoLink:
			out.Target = n.text
		case api.NoDir:
			out.Parent = s.above(n).Node
			for name, of := range n.names {
				out.List = append(out.List, api.Entry{Name: name, Node: of.Node})
			}
			slices.SortFunc(out.List, func(a, b api.Entry) int { return strings.Compare(a.Name, b.Name) })
		}
		t.Nodes[i] = out
	}
	return t
}

// above: the directory that a directory is in; the root's is it itself.
func (s *slowTree) above(n *slowNode) *slowNode {
	for _, d := range s.nodes {
		for _, in := range d.names {
			if in == n {
				return d
			}
		}
	}
	return n
}

func (s *slowTree) depth(n *slowNode) int {
	if n.Node == 1 {
		return 0
	}
	return 1 + s.depth(s.above(n))
}

// levels: how many directories are in one, one within the other.
func levels(n *slowNode) int {
	most := 0
	for _, in := range n.names {
		if in.Kind == api.NoDir {
			most = max(most, 1+levels(in))
		}
	}
	return most
}

func isWithin(n, top *slowNode) bool {
	if n == top {
		return true
	}
	for _, in := range top.names {
		if in.Kind == api.NoDir && isWithin(n, in) {
			return true
		}
	}
	return false
}

func slowMay(n *slowNode, e api.Env, what int) bool {
	return perms.May(api.Node{Kind: n.Kind, Mode: n.Mode, User: n.User, Group: n.Group}, e, what)
}

// slowMayBe: what is left of a call without the fields of its row is nothing.
func slowMayBe(c api.Call) bool {
	if c.Mode < 0 || c.Mode >= 512 || c.User < -1 || c.User >= 65536 || c.Group < -1 || c.Group >= 65536 || c.Time < -1 || c.Time >= 1<<40 || c.Time == -1 && c.Kind == api.CaTick {
		return false
	}
	left := c
	left.Env = api.Env{}
	left.Data = append([]byte(nil), c.Data...)
	switch c.Kind {
	case api.CaWrite, api.CaAppend:
		left.Path, left.Mode, left.Data = "", 0, nil
	case api.CaMkdir, api.CaChmod:
		left.Path, left.Mode = "", 0
	case api.CaRmdir, api.CaUnlink:
		left.Path = ""
	case api.CaLink, api.CaSymlink, api.CaRename:
		left.Path, left.Other = "", ""
	case api.CaChown:
		left.Path, left.User, left.Group = "", 0, 0
	case api.CaTouch:
		left.Path, left.Time = "", 0
	case api.CaTick:
		left.Time = 0
	default:
		return false
	}
	return reflect.DeepEqual(left, api.Call{Kind: c.Kind})
}

// slowDo: a call, as the chapter's rows read.
func slowDo(t api.Tree, c api.Call) (api.Tree, api.Errno) {
	if !tree.Check(t) || !perms.Check(t, c.Env) || !slowMayBe(c) {
		return api.Tree{}, api.ErrArg
	}
	var p, o paths.Place
	var err api.Errno
	switch c.Kind {
	case api.CaWrite, api.CaAppend, api.CaChmod, api.CaChown, api.CaTouch:
		p, err = paths.Find(t, c.Env, c.Path, true)
	case api.CaMkdir, api.CaRmdir, api.CaUnlink, api.CaLink, api.CaRename:
		p, err = paths.Find(t, c.Env, c.Path, false)
	}
	if err != api.OK {
		return api.Tree{}, err
	}
	switch c.Kind {
	case api.CaLink, api.CaSymlink, api.CaRename:
		o, err = paths.Find(t, c.Env, c.Other, false)
	}
	if err != api.OK {
		return api.Tree{}, err
	}
	s := slowOf(t)
	if err := s.do(c, p, o); err != api.OK {
		return api.Tree{}, err
	}
	return s.told(), api.OK
}

func (s *slowTree) do(c api.Call, p, o paths.Place) api.Errno {
	switch c.Kind {
	case api.CaWrite, api.CaAppend:
		return s.write(c, p)
	case api.CaMkdir:
		return s.mkdir(c, p)
	case api.CaRmdir:
		return s.rmdir(c, p)
	case api.CaUnlink:
		return s.unlink(c, p)
	case api.CaLink:
		return s.link(c, p, o)
	case api.CaSymlink:
		return s.symlink(c, o)
	case api.CaRename:
		return s.rename(c, p, o)
	case api.CaTick:
		s.now += c.Time
		if s.now > 1<<40-1 {
			s.now = 1<<40 - 1
		}
		return api.OK
	}
	n := s.nodes[p.Node]
	if n == nil {
		return api.ErrNone
	}
	owns := c.Env.User == 0 || c.Env.User == n.User
	switch c.Kind {
	case api.CaChmod:
		if !owns {
			return api.ErrPerm
		}
		n.Mode = c.Mode
	case api.CaChown:
		if c.Env.User != 0 {
			if c.User != -1 && c.User != n.User || !owns || c.Group != -1 && c.Group != n.Group && c.Group != c.Env.Group {
				return api.ErrPerm
			}
		}
		if c.User >= 0 {
			n.User = c.User
		}
		if c.Group >= 0 {
			n.Group = c.Group
		}
	case api.CaTouch:
		if !owns && !slowMay(n, c.Env, 2) {
			return api.ErrPerm
		}
		n.Time = c.Time
		if c.Time == -1 {
			n.Time = s.now
		}
	}
	return api.OK
}

// roomFor: may a name come into a directory?
func (s *slowTree) roomFor(c api.Call, dir int) api.Errno {
	if !slowMay(s.nodes[dir], c.Env, 2) {
		return api.ErrPerm
	}
	all := 0
	for _, n := range s.nodes {
		all += len(n.names)
	}
	if len(s.nodes[dir].names) == 512 || all == 2048 {
		return api.ErrFull
	}
	return api.OK
}

// fresh: a new node by a name.
func (s *slowTree) fresh(c api.Call, in paths.Place, kind api.NodeKind, mode int) *slowNode {
	at := 2
	for s.nodes[at] != nil {
		at++
	}
	n := &slowNode{Stat: api.Stat{Node: at, Kind: kind, Mode: mode, User: c.Env.User, Group: c.Env.Group, Time: s.now}, names: map[string]*slowNode{}}
	s.nodes[at] = n
	s.nodes[in.Dir].names[in.Name] = n
	s.nodes[in.Dir].Time = s.now
	return n
}

func (s *slowTree) write(c api.Call, p paths.Place) api.Errno {
	if len(c.Data) > 65536 {
		return api.ErrBig
	}
	n := s.nodes[p.Node]
	if p.Name == "" || n != nil && n.Kind == api.NoDir || n == nil && p.Dirs {
		return api.ErrDir
	}
	content := string(c.Data)
	if n != nil {
		if !slowMay(n, c.Env, 2) {
			return api.ErrPerm
		}
		if c.Kind == api.CaAppend {
			content = n.text + content
		}
	} else {
		if err := s.roomFor(c, p.Dir); err != api.OK {
			return err
		}
		if len(s.nodes) == 512 {
			return api.ErrFull
		}
		n = s.fresh(c, p, api.NoFile, c.Mode-c.Mode&c.Env.Mask)
	}
	if len(content) > 65536 {
		return api.ErrBig
	}
	n.text, n.Time = content, s.now
	all := 0
	for _, m := range s.nodes {
		if m.Kind == api.NoFile {
			all += len(m.text)
		}
	}
	if all > 1048576 {
		return api.ErrFull
	}
	return api.OK
}

func (s *slowTree) mkdir(c api.Call, p paths.Place) api.Errno {
	if p.Node != 0 {
		return api.ErrThere
	}
	if err := s.roomFor(c, p.Dir); err != api.OK {
		return err
	}
	if s.depth(s.nodes[p.Dir]) == 32 {
		return api.ErrLimit
	}
	if len(s.nodes) == 512 {
		return api.ErrFull
	}
	s.fresh(c, p, api.NoDir, c.Mode-c.Mode&c.Env.Mask)
	return api.OK
}

// goes: a name from its directory.
func (s *slowTree) goes(p paths.Place) {
	delete(s.nodes[p.Dir].names, p.Name)
	s.nodes[p.Dir].Time = s.now
}

func (s *slowTree) rmdir(c api.Call, p paths.Place) api.Errno {
	switch n := s.nodes[p.Node]; {
	case p.Name == "":
		return api.ErrBusy
	case n == nil:
		return api.ErrNone
	case n.Kind != api.NoDir:
		return api.ErrNotDir
	case len(n.names) > 0, p.Node == c.Env.Dir:
		return api.ErrBusy
	case !slowMay(s.nodes[p.Dir], c.Env, 2):
		return api.ErrPerm
	}
	s.goes(p)
	return api.OK
}

func (s *slowTree) unlink(c api.Call, p paths.Place) api.Errno {
	switch n := s.nodes[p.Node]; {
	case p.Name == "":
		return api.ErrDir
	case n == nil:
		return api.ErrNone
	case n.Kind == api.NoDir:
		return api.ErrDir
	case !slowMay(s.nodes[p.Dir], c.Env, 2):
		return api.ErrPerm
	}
	s.goes(p)
	return api.OK
}

// newName: may what is no directory have the name Other?
func (s *slowTree) newName(c api.Call, o paths.Place) api.Errno {
	if o.Node != 0 {
		return api.ErrThere
	}
	if o.Dirs {
		return api.ErrNone
	}
	return s.roomFor(c, o.Dir)
}

func (s *slowTree) link(c api.Call, p, o paths.Place) api.Errno {
	n := s.nodes[p.Node]
	if n == nil {
		return api.ErrNone
	}
	if n.Kind == api.NoDir {
		return api.ErrDir
	}
	if err := s.newName(c, o); err != api.OK {
		return err
	}
	s.nodes[o.Dir].names[o.Name] = n
	s.nodes[o.Dir].Time = s.now
	return api.OK
}

func (s *slowTree) symlink(c api.Call, o paths.Place) api.Errno {
	if len(c.Path) == 0 {
		return api.ErrNone
	}
	if len(c.Path) > 1024 || strings.Contains(c.Path, "\x00") {
		return api.ErrName
	}
	if err := s.newName(c, o); err != api.OK {
		return err
	}
	if len(s.nodes) == 512 {
		return api.ErrFull
	}
	s.fresh(c, o, api.NoLink, 0o777).text = c.Path
	return api.OK
}

func (s *slowTree) rename(c api.Call, p, o paths.Place) api.Errno {
	if p.Name == "" || o.Name == "" {
		return api.ErrBusy
	}
	n, other := s.nodes[p.Node], s.nodes[o.Node]
	if n == nil {
		return api.ErrNone
	}
	if n == other {
		return api.OK
	}
	if n.Kind == api.NoDir {
		if isWithin(s.nodes[o.Dir], n) {
			return api.ErrInto
		}
		if other != nil {
			if other.Kind != api.NoDir {
				return api.ErrNotDir
			}
			if len(other.names) != 0 || o.Node == c.Env.Dir {
				return api.ErrBusy
			}
		}
		if s.depth(s.nodes[o.Dir])+1+levels(n) > 32 {
			return api.ErrLimit
		}
	} else {
		if other != nil && other.Kind == api.NoDir {
			return api.ErrDir
		}
		if other == nil && o.Dirs {
			return api.ErrNotDir
		}
	}
	if !slowMay(s.nodes[p.Dir], c.Env, 2) || !slowMay(s.nodes[o.Dir], c.Env, 2) {
		return api.ErrPerm
	}
	if other == nil && p.Dir != o.Dir && len(s.nodes[o.Dir].names) == 512 {
		return api.ErrFull
	}
	s.goes(p)
	s.nodes[o.Dir].names[o.Name] = n
	s.nodes[o.Dir].Time = s.now
	return api.OK
}
