package codec

import "toolchest/api"

// reader takes bytes from the front of those that are left. Each of its methods says whether what it reads was there, whole, and no longer than it may be; behind a false nothing more is asked.
type reader struct{ left []byte }

// take: the next so many bytes, where they lie: who keeps them copies them.
func (r *reader) take(n int) ([]byte, bool) {
	if n > len(r.left) {
		return nil, false
	}
	taken := r.left[:n]
	r.left = r.left[n:]
	return taken, true
}

// number: of so many bytes, the lowest first.
func (r *reader) number(size int) (uint64, bool) {
	bytes, ok := r.take(size)
	n := uint64(0)
	for i, b := range bytes {
		n |= uint64(b) << (8 * i)
	}
	return n, ok
}

// length: at most so great. It is held against that ahead of being an int, so that no length is below 0.
func (r *reader) length(limit int) (int, bool) {
	n, ok := r.number(lengthLen)
	if !ok || n > uint64(limit) {
		return 0, false
	}
	return int(n), true
}

func (r *reader) numbersInto(to ...*int) bool {
	for _, place := range to {
		n, ok := r.number(numberLen)
		if !ok {
			return false
		}
		*place = int(n)
	}
	return true
}

// text: a text's bytes, where they lie.
func (r *reader) text() ([]byte, bool) {
	n, ok := r.length(api.MaxFile)
	if !ok {
		return nil, false
	}
	return r.take(n)
}

func (r *reader) textInto(to *string) bool {
	text, ok := r.text()
	*to = string(text)
	return ok
}

func (r *reader) dataInto(to *[]byte) bool {
	data, ok := r.text()
	*to = append([]byte(nil), data...)
	return ok
}

// areWhole: reads parts, one behind the other.
func areWhole(parts []func() bool) bool {
	for _, isWhole := range parts {
		if !isWhole() {
			return false
		}
	}
	return true
}

// callReader reads a call.
type callReader struct {
	reader
	call api.Call
}

// parts: in the order in which they stand.
func (r *callReader) parts() []func() bool {
	return []func() bool{r.kind, r.paths, r.numbers, r.data, r.env}
}

func (r *callReader) kind() bool {
	n, ok := r.number(1)
	r.call.Kind = api.CallKind(n)
	return ok
}

func (r *callReader) paths() bool {
	return r.textInto(&r.call.Path) && r.textInto(&r.call.Other)
}

func (r *callReader) numbers() bool {
	c := &r.call
	return r.numbersInto(&c.Mode, &c.User, &c.Group, &c.Time)
}

func (r *callReader) data() bool { return r.dataInto(&r.call.Data) }

func (r *callReader) env() bool {
	e := &r.call.Env
	return r.numbersInto(&e.User, &e.Group, &e.Mask, &e.Dir)
}

// treeReader reads a tree.
type treeReader struct {
	reader
	tree api.Tree
}

func (r *treeReader) parts() []func() bool {
	return []func() bool{r.now, r.nodes}
}

func (r *treeReader) now() bool { return r.numbersInto(&r.tree.Now) }

// nodes: the list grows by those that are there, whatever number is told ahead of them.
func (r *treeReader) nodes() bool {
	n, ok := r.length(maxNodes)
	for range n {
		one := nodeReader{reader: &r.reader}
		if !areWhole(one.parts()) {
			return false
		}
		r.tree.Nodes = append(r.tree.Nodes, one.node)
	}
	return ok
}

// nodeReader reads a node, from the bytes that its tree's reader has left.
type nodeReader struct {
	*reader
	node api.Node
}

func (r *nodeReader) parts() []func() bool {
	return []func() bool{r.kind, r.numbers, r.data, r.target, r.list, r.parent}
}

func (r *nodeReader) kind() bool {
	n, ok := r.number(1)
	r.node.Kind = api.NodeKind(n)
	return ok
}

func (r *nodeReader) numbers() bool {
	n := &r.node
	return r.numbersInto(&n.Mode, &n.User, &n.Group, &n.Links, &n.Time)
}

func (r *nodeReader) data() bool { return r.dataInto(&r.node.Data) }

func (r *nodeReader) target() bool { return r.textInto(&r.node.Target) }

func (r *nodeReader) list() bool {
	n, ok := r.length(api.MaxNodes)
	for range n {
		var e api.Entry
		if !r.textInto(&e.Name) || !r.numbersInto(&e.Node) {
			return false
		}
		r.node.List = append(r.node.List, e)
	}
	return ok
}

func (r *nodeReader) parent() bool { return r.numbersInto(&r.node.Parent) }
