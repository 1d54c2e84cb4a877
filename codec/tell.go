package codec

import "toolchest/api"

// teller takes bytes, behind those that it took before.
type teller func(bytes ...byte)

// gather: all that is told, in new memory.
func gather(tellAll func(tell teller)) []byte {
	var out []byte
	tellAll(func(bytes ...byte) { out = append(out, bytes...) })
	return out
}

func (tell teller) call(c api.Call) {
	tell(byte(c.Kind))
	tell.text(c.Path)
	tell.text(c.Other)
	tell.numbers(c.Mode, c.User, c.Group, c.Time)
	tell.data(c.Data)
	tell.numbers(c.Env.User, c.Env.Group, c.Env.Mask, c.Env.Dir)
}

func (tell teller) tree(t api.Tree) {
	tell.numbers(t.Now)
	tell.length(len(t.Nodes))
	for _, n := range t.Nodes {
		tell.node(n)
	}
}

func (tell teller) node(n api.Node) {
	tell(byte(n.Kind))
	tell.numbers(n.Mode, n.User, n.Group, n.Links, n.Time)
	tell.data(n.Data)
	tell.text(n.Target)
	tell.length(len(n.List))
	for _, e := range n.List {
		tell.text(e.Name)
		tell.numbers(e.Node)
	}
	tell.numbers(n.Parent)
}

func (tell teller) numbers(numbers ...int) {
	for _, n := range numbers {
		tell(lowestFirst(uint64(n), numberLen)...)
	}
}

func (tell teller) length(n int) { tell(lowestFirst(uint64(n), lengthLen)...) }

func (tell teller) text(text string) { tell.data([]byte(text)) }

func (tell teller) data(data []byte) {
	tell.length(len(data))
	tell(data...)
}

// lowestFirst: a number as so many bytes.
func lowestFirst(n uint64, size int) []byte {
	out := make([]byte, size)
	for i := range out {
		out[i] = byte(n >> (8 * i))
	}
	return out
}
