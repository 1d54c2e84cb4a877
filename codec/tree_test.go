package codec_test

import (
	"bytes"
	"encoding/binary"
	"encoding/hex"
	"math"
	"runtime"
	"slices"
	"strconv"
	"strings"
	"testing"

	"toolchest/api"
	"toolchest/calls"
	"toolchest/codec"
	"toolchest/tree"
)

// P16.2: a tree's bytes, one by one.
func TestTreeBytes(t *testing.T) {
	x := api.Tree{Now: 0x0102, Nodes: []api.Node{
		{},
		{Kind: api.NoDir, Mode: 1, User: 2, Group: 3, Links: 4, Time: 5, Data: []byte("d"), Target: "ta", List: []api.Entry{{Name: "e", Node: 6}, {Name: "", Node: -1}}, Parent: 7},
	}}
	want := strings.ReplaceAll("0201000000000000 02000000"+
		" 00 0000000000000000 0000000000000000 0000000000000000 0000000000000000 0000000000000000"+
		" 00000000 00000000 00000000 0000000000000000"+
		" 02 0100000000000000 0200000000000000 0300000000000000 0400000000000000 0500000000000000"+
		" 01000000 64 02000000 7461"+
		" 02000000 01000000 65 0600000000000000 00000000 ffffffffffffffff"+
		" 0700000000000000", " ", "")
	b, err := putTree(t, x)
	if err != api.OK || hex.EncodeToString(b) != want {
		t.Errorf("PutTree: %x, %d, want %s", b, err, want)
	}
	raw, _ := hex.DecodeString(want + "0102")
	got, n, err := getTree(t, raw)
	if err != api.OK || n != len(raw)-2 || !sameTree(got, x) {
		t.Errorf("GetTree: %v, %d, %d", got, n, err)
	}
}

// P16.2: trees that may be: none but the root, and what calls leave.
func TestTreesThatMayBe(t *testing.T) {
	x := tree.New()
	root := api.Env{Dir: 1}
	for _, c := range []api.Call{
		{Kind: api.CaMkdir, Path: "d", Mode: 0o755},
		{Kind: api.CaWrite, Path: "d/f", Mode: 0o644, Data: []byte(allBytes())},
		{Kind: api.CaLink, Path: "d/f", Other: "g"},
		{Kind: api.CaTick, Time: 77},
		{Kind: api.CaWrite, Path: "h", Mode: 0o600, Data: []byte(longText(api.MaxFile))},
		{Kind: api.CaSymlink, Path: "../x", Other: "d/l"},
		{Kind: api.CaMkdir, Path: "d/e", Mode: 0o700},
		{Kind: api.CaUnlink, Path: "h"},
		{Kind: api.CaChown, Path: "g", User: 5, Group: 65535},
	} {
		c.Env = root
		if _, err := put(t, c); err != api.OK {
			t.Errorf("Put: %d", err)
		}
		y, err := calls.Do(x, c)
		if err != api.OK {
			t.Fatal("Do:", err)
		}
		x = y
		b, err := putTree(t, x)
		wantErr(t, "PutTree", err, api.OK)
		back, n, err := getTree(t, b)
		if err != api.OK || n != len(b) || !tree.Check(back) {
			t.Errorf("GetTree: %d, %d, may be: %v", n, err, tree.Check(back))
		}
	}
}

// P16.2: no node, as many as may be, one more.
func TestTreeNodes(t *testing.T) {
	for _, n := range []int{0, 1, 2, 255, 256, api.MaxNodes, api.MaxNodes + 1} {
		x := api.Tree{Now: n, Nodes: make([]api.Node, n)}
		for i := range x.Nodes {
			x.Nodes[i].Mode = i
		}
		b, err := putTree(t, x)
		if err != api.OK || len(b) != 12+n*61 {
			t.Errorf("PutTree of %d nodes: %d bytes, %d", n, len(b), err)
		}
		got, _, err := getTree(t, b)
		if err != api.OK || len(got.Nodes) != n {
			t.Errorf("GetTree of %d nodes: %d, %d", n, len(got.Nodes), err)
		}
	}
	for _, n := range []int{api.MaxNodes + 2, 2 * api.MaxNodes, 1 << 16} {
		_, err := putTree(t, api.Tree{Nodes: make([]api.Node, n)})
		wantErr(t, "PutTree of "+strconv.Itoa(n)+" nodes", err, api.ErrArg)
	}
}

// P16.2: no entry, as many as may be, one more; in any node, of any kind.
func TestTreeEntries(t *testing.T) {
	for _, node := range []int{0, 1, 2, 4, 5} {
		for _, n := range []int{0, 1, 255, 256, api.MaxNodes - 1, api.MaxNodes, api.MaxNodes + 1, api.MaxNodes + 2, 1 << 16} {
			x := sampleTree()
			x.Nodes[node].List = nil
			for i := range n {
				x.Nodes[node].List = append(x.Nodes[node].List, api.Entry{Name: strconv.Itoa(i), Node: -i})
			}
			b, err := putTree(t, x)
			if n > api.MaxNodes {
				wantErr(t, "PutTree of "+strconv.Itoa(n)+" entries", err, api.ErrArg)
				continue
			}
			wantErr(t, "PutTree of "+strconv.Itoa(n)+" entries", err, api.OK)
			got, _, err := getTree(t, b)
			if err != api.OK || len(got.Nodes[node].List) != n {
				t.Errorf("GetTree of %d entries: %d", n, err)
			}
		}
	}
	full := api.Tree{Nodes: make([]api.Node, api.MaxNodes+1)} // more in all than a tree may have
	for i := range full.Nodes {
		full.Nodes[i].List = make([]api.Entry, api.MaxNodes)
	}
	b, err := putTree(t, full)
	if err != api.OK || len(b) != 12+513*(61+512*12) {
		t.Errorf("PutTree of all entries: %d bytes, %d", len(b), err)
	}
}

// putText puts a text into a node: 0 Data, 1 Target, 2 the Name of its last entry.
func putText(n *api.Node, which int, s string) {
	switch which {
	case 0:
		n.Data = []byte(s)
	case 1:
		n.Target = s
	case 2:
		n.List = append(slices.Clone(n.List), api.Entry{Name: s, Node: 3})
	}
}

// P16.2, P0.5: texts of any bytes, up to MaxFile of them; one more is refused, in any node.
func TestTreeTexts(t *testing.T) {
	for node := range sampleTree().Nodes {
		for which := range 3 {
			for _, s := range []string{"", "\x00", "/", "\xff\xfe", allBytes(), longText(65535), longText(api.MaxFile)} {
				x := sampleTree()
				putText(&x.Nodes[node], which, s)
				b, err := putTree(t, x)
				wantErr(t, "PutTree of a text of "+strconv.Itoa(len(s)), err, api.OK)
				_, _, err = getTree(t, b)
				wantErr(t, "GetTree of a text of "+strconv.Itoa(len(s)), err, api.OK)
			}
			for _, n := range []int{api.MaxFile + 1, api.MaxFile + 256, 1 << 20} {
				x := sampleTree()
				putText(&x.Nodes[node], which, longText(n))
				_, err := putTree(t, x)
				wantErr(t, "PutTree of a text of "+strconv.Itoa(n), err, api.ErrArg)
			}
		}
	}
	files := api.Tree{Nodes: make([]api.Node, api.MaxNodes+1)} // more in all than MaxTree
	for i := range files.Nodes {
		files.Nodes[i].Data = []byte(longText(api.MaxFile))
	}
	b, err := putTree(t, files)
	if err != api.OK || len(b) != 12+513*(61+65536) {
		t.Errorf("PutTree of great files: %d bytes, %d", len(b), err)
	}
	name := longText(api.MaxFile)
	names := api.Tree{Nodes: []api.Node{{List: slices.Repeat([]api.Entry{{Name: name, Node: 1}}, api.MaxNodes)}}}
	b, err = putTree(t, names)
	if err != api.OK || len(b) != 12+61+512*(12+65536) {
		t.Errorf("PutTree of long names: %d bytes, %d", len(b), err)
	}
}

// P16.2: kinds that there are not, too.
func TestTreeKinds(t *testing.T) {
	for kind := range 256 {
		x := sampleTree()
		for i := range x.Nodes {
			x.Nodes[i].Kind = api.NodeKind(kind)
		}
		b, err := putTree(t, x)
		wantErr(t, "PutTree of kind "+strconv.Itoa(kind), err, api.OK)
		got, _, err := getTree(t, b)
		if err != api.OK || int(got.Nodes[0].Kind) != kind || int(got.Nodes[5].Kind) != kind {
			t.Errorf("GetTree of kind %d: %d", kind, err)
		}
	}
}

// treeNumbers: the places of the numbers of a tree with one node, which has one entry.
func treeNumbers(x *api.Tree) []*int {
	n := &x.Nodes[0]
	return []*int{&x.Now, &n.Mode, &n.User, &n.Group, &n.Links, &n.Time, &n.List[0].Node, &n.Parent}
}

// P16.2: numbers below 0, and of all 64 bits, each in its own place.
func TestTreeNumbers(t *testing.T) {
	one := func() api.Tree { return api.Tree{Nodes: []api.Node{{List: []api.Entry{{}}}}} }
	zero := one()
	for place := range treeNumbers(&zero) {
		for _, n := range numbers() {
			x := one()
			*treeNumbers(&x)[place] = n
			b, err := putTree(t, x)
			at := []int{0, 13, 21, 29, 37, 45, 69, 77}[place]
			if err != api.OK || len(b) != 85 || binary.LittleEndian.Uint64(b[at:]) != uint64(n) {
				t.Errorf("PutTree of %d at %d: % x, %d", n, place, b, err)
			}
			got, _, err := getTree(t, b)
			if err != api.OK || *treeNumbers(&got)[place] != n {
				t.Errorf("GetTree of %d at %d: %v, %d", n, place, got, err)
			}
		}
	}
}

// P16.2: bytes that end ahead of a whole tree, at every place, even if their spare room has the rest.
func TestGetTreeCut(t *testing.T) {
	for _, x := range []api.Tree{{}, tree.New(), sampleTree()} {
		b, _ := putTree(t, x)
		for i := range b {
			_, n, err := getTree(t, b[:i])
			if err != api.ErrForm || n != 0 {
				t.Errorf("GetTree of %d of %d bytes: %d, %d", i, len(b), n, err)
			}
			_, _, err = getTree(t, bytes.Clone(b[:i]))
			wantErr(t, "GetTree of a copy of "+strconv.Itoa(i), err, api.ErrForm)
		}
	}
	_, _, err := getTree(t, nil)
	wantErr(t, "GetTree of nothing", err, api.ErrForm)
}

// P16.2: bytes behind a whole tree are left.
func TestGetTreeBehind(t *testing.T) {
	for _, x := range []api.Tree{{}, tree.New(), sampleTree()} {
		b, _ := putTree(t, x)
		for _, behind := range [][]byte{{0}, {9}, make([]byte, 100), bytes.Repeat([]byte{255}, 1000), b} {
			got, n, err := getTree(t, append(bytes.Clone(b), behind...))
			if err != api.OK || n != len(b) || !sameTree(got, x) {
				t.Errorf("GetTree with %d bytes behind: %d of %d, %d", len(behind), n, len(b), err)
			}
		}
	}
}

// P16.2: a length above what PutTree takes: of nodes, of entries, of texts, whatever stands behind it.
func TestGetTreeLengths(t *testing.T) {
	rest := make([]byte, 1<<20)
	one := append(append([]byte{8: 1}, 0, 0, 0), rest...) // Now, one node
	for _, place := range []struct {
		what   string
		at     int
		limit  uint32
		answer func(x api.Tree) int
	}{
		{"nodes", 8, 513, func(x api.Tree) int { return len(x.Nodes) }},
		{"Data", 53, 65536, func(x api.Tree) int { return len(x.Nodes[0].Data) }},
		{"Target", 57, 65536, func(x api.Tree) int { return len(x.Nodes[0].Target) }},
		{"entries", 61, 512, func(x api.Tree) int { return len(x.Nodes[0].List) }},
	} {
		for _, n := range []uint32{0, 1, 2, 255, 256, 511, 512, 513, 514, 515, 1 << 16, 1<<16 + 1, 1<<16 + 2, 1 << 18, 1 << 24, 1<<31 - 1, 1 << 31, 1<<32 - 512, 1<<32 - 1} {
			b := bytes.Clone(one)
			binary.LittleEndian.PutUint32(b[place.at:], n)
			x, _, err := getTree(t, b)
			switch {
			case n > place.limit:
				wantErr(t, "GetTree of "+place.what+" "+strconv.Itoa(int(n)), err, api.ErrForm)
			case err != api.OK || place.answer(x) != int(n):
				t.Errorf("GetTree of %s %d: %d", place.what, n, err)
			}
		}
	}
	for _, n := range []uint32{65536, 65537, 1 << 31, 1<<32 - 1} { // of a name
		b := bytes.Clone(one)
		b[61] = 1
		binary.LittleEndian.PutUint32(b[65:], n)
		x, _, err := getTree(t, b)
		if n > 65536 {
			wantErr(t, "GetTree of a name of "+strconv.Itoa(int(n)), err, api.ErrForm)
		} else if err != api.OK || len(x.Nodes[0].List[0].Name) != int(n) {
			t.Errorf("GetTree of a name of %d: %d", n, err)
		}
	}
}

// P16.2: a fault of the last node, of its last entry, is told as one of the first.
func TestLastNode(t *testing.T) {
	full := api.Tree{Nodes: make([]api.Node, api.MaxNodes+1)}
	last := &full.Nodes[api.MaxNodes]
	last.List = make([]api.Entry, api.MaxNodes)
	last.List[api.MaxNodes-1].Name = longText(api.MaxFile)
	b, err := putTree(t, full)
	wantErr(t, "PutTree of a full tree", err, api.OK)
	_, _, err = getTree(t, b[:len(b)-1])
	wantErr(t, "GetTree with one byte less", err, api.ErrForm)
	last.List[api.MaxNodes-1].Name = longText(api.MaxFile + 1)
	_, err = putTree(t, full)
	wantErr(t, "PutTree with one byte more", err, api.ErrArg)
}

// R1: a tree that is refused costs no memory, however great what it has.
func TestRefusedSoon(t *testing.T) {
	name := longText(api.MaxFile)
	list := slices.Repeat([]api.Entry{{Name: name, Node: 1}}, api.MaxNodes)
	x := api.Tree{Nodes: slices.Repeat([]api.Node{{Target: name, List: list}}, 16)}
	x.Nodes[15].Target += "x"
	var ahead, behind runtime.MemStats
	runtime.ReadMemStats(&ahead)
	b, err := codec.PutTree(x)
	runtime.ReadMemStats(&behind)
	if err != api.ErrArg || b != nil {
		t.Errorf("PutTree: %d bytes, %d", len(b), err)
	}
	if took := behind.TotalAlloc - ahead.TotalAlloc; took > 1<<20 {
		t.Errorf("PutTree took %d bytes", took)
	}
}

// R4: what is answered is new memory, no two lists in it share any, and nothing that is handed in is kept.
func TestTreeMemory(t *testing.T) {
	x := sampleTree()
	want, _ := slowPutTree(x)
	room := []byte("content and room behind")
	x.Nodes[2].Data = room[:7]
	first, _ := codec.PutTree(x)
	second, _ := codec.PutTree(x)
	scribble(first)
	if string(room) != "content and room behind" || !sameTree(x, sampleTree()) {
		t.Error("PutTree's answer shares memory with the tree")
	}
	scribble(room)
	if !bytes.Equal(second, want) {
		t.Error("PutTree's answers share memory, or keep the tree's")
	}

	for node := range sampleTree().Nodes {
		b := append(bytes.Clone(want), "behind"...)
		x, _, _ := codec.GetTree(b)
		y, _, _ := codec.GetTree(b)
		rest := sampleTree()
		rest.Nodes[node].Data, rest.Nodes[node].List = nil, nil
		scribble(x.Nodes[node].Data)
		scribbleList(x.Nodes[node].List)
		x.Nodes[node].Data, x.Nodes[node].List = nil, nil
		if !sameTree(x, rest) || !sameTree(y, sampleTree()) || !bytes.Equal(b, append(bytes.Clone(want), "behind"...)) {
			t.Errorf("the lists of node %d share memory with something", node)
		}
		nodes := x.Nodes[:cap(x.Nodes)]
		clear(nodes)
		scribble(b)
		if !sameTree(y, sampleTree()) {
			t.Error("GetTree keeps the bytes")
		}
	}
}

func scribbleList(list []api.Entry) {
	list = list[:cap(list)]
	for i := range list {
		list[i] = api.Entry{Name: "scribbled", Node: math.MinInt}
	}
}

// R4: a list's spare room is not told and not changed.
func TestTreeRoom(t *testing.T) {
	nodes := []api.Node{{Kind: 1}, {Kind: 2}, {Kind: 3, Mode: 77}}
	list := []api.Entry{{Name: "a", Node: 1}, {Name: "room", Node: 2}}
	nodes[1].List = list[:1]
	b, err := putTree(t, api.Tree{Nodes: nodes[:2]})
	if err != api.OK || len(b) != 12+2*61+13 {
		t.Errorf("PutTree: %d bytes, %d", len(b), err)
	}
	if nodes[2].Kind != 3 || nodes[2].Mode != 77 || list[1] != (api.Entry{Name: "room", Node: 2}) {
		t.Error("PutTree changed spare room")
	}
}

// R4: empty and nil mean the same.
func TestTreeEmpty(t *testing.T) {
	a, _ := putTree(t, api.Tree{})
	b, _ := putTree(t, api.Tree{Nodes: []api.Node{}})
	if !bytes.Equal(a, b) || len(a) != 12 {
		t.Error("PutTree tells an empty list of nodes from none")
	}
	a, _ = putTree(t, api.Tree{Nodes: []api.Node{{}}})
	b, _ = putTree(t, api.Tree{Nodes: []api.Node{{Data: []byte{}, List: []api.Entry{}}}})
	if !bytes.Equal(a, b) {
		t.Error("PutTree tells empty lists from none")
	}
}
