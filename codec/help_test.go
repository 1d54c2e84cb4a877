package codec_test

import (
	"bytes"
	"encoding/binary"
	"math"
	"reflect"
	"slices"
	"strings"
	"testing"

	"toolchest/api"
	"toolchest/codec"
	"toolchest/tree"
)

// allBytes: a text with each byte once.
func allBytes() string {
	out := make([]byte, 256)
	for i := range out {
		out[i] = byte(i)
	}
	return string(out)
}

// longText: of so many bytes, such that a piece of it is told from another one.
func longText(n int) string {
	out := make([]byte, n)
	x := uint32(n)
	for i := range out {
		x = x*1664525 + 1013904223
		out[i] = byte(x >> 24)
	}
	return string(out)
}

// numbers at the edges of what a number's bytes may be.
func numbers() []int {
	out := []int{0, 1, -1, 127, 128, 255, 256, -128, -129, 1 << 31, -1 << 31, 1<<32 - 1, 1 << 32, api.MaxTime, api.MaxTime + 1, math.MaxInt, math.MinInt, 0x0102030405060708, -0x0102030405060708}
	for i := range 64 {
		out = append(out, int(uint64(1)<<i), int(^(uint64(1) << i)))
	}
	return out
}

func sampleCall() api.Call {
	return api.Call{Kind: api.CaWrite, Path: "a/b", Other: "c", Mode: -1, User: 5, Group: 1 << 40, Time: 7, Data: []byte("hi"), Env: api.Env{User: 1, Group: 2, Mask: 3, Dir: 4}}
}

// sampleTree has something of every kind, and of each field; it is none that may be.
func sampleTree() api.Tree {
	t := tree.New()
	t.Now = 9
	t.Nodes[1].List = []api.Entry{{Name: "name", Node: 2}, {Name: "", Node: -7}, {Name: "m", Node: math.MaxInt}}
	t.Nodes = append(t.Nodes,
		api.Node{Kind: api.NoFile, Mode: 0o644, User: 5, Group: 6, Links: 1, Time: 8, Data: []byte("content")},
		api.Node{},
		api.Node{Kind: api.NoLink, Mode: 0o777, User: -5, Group: -6, Links: -4, Time: -8, Target: "to"},
		api.Node{Kind: 200, Mode: math.MinInt, User: 1 << 40, Group: math.MaxInt, Links: 1 << 20, Time: 1 << 50, Data: []byte(allBytes()), Target: allBytes(), List: []api.Entry{{Name: allBytes(), Node: math.MinInt}}, Parent: -3},
	)
	return t
}

func copyCall(c api.Call) api.Call {
	c.Path, c.Other, c.Data = strings.Clone(c.Path), strings.Clone(c.Other), append([]byte(nil), c.Data...)
	return c
}

// copyTree: with nil for lists that are empty, so that two copies are alike if their trees are.
func copyTree(t api.Tree) api.Tree {
	t.Nodes = append([]api.Node(nil), t.Nodes...)
	for i := range t.Nodes {
		n := &t.Nodes[i]
		n.Target, n.Data = strings.Clone(n.Target), append([]byte(nil), n.Data...)
		n.List = append([]api.Entry(nil), n.List...)
		for k := range n.List {
			n.List[k].Name = strings.Clone(n.List[k].Name)
		}
	}
	return t
}

func sameCall(a, b api.Call) bool { return reflect.DeepEqual(copyCall(a), copyCall(b)) }

func sameTree(a, b api.Tree) bool { return reflect.DeepEqual(copyTree(a), copyTree(b)) }

// The slow reading: the chapter's words, one behind the other, by the library.

func slowNumber(out []byte, n ...int) []byte {
	for _, x := range n {
		out = binary.LittleEndian.AppendUint64(out, uint64(x))
	}
	return out
}

func slowText(out []byte, s string) []byte {
	return append(binary.LittleEndian.AppendUint32(out, uint32(len(s))), s...)
}

func slowPut(c api.Call) ([]byte, api.Errno) {
	if max(len(c.Path), len(c.Other), len(c.Data)) > 65536 {
		return nil, api.ErrArg
	}
	out := slowText(slowText([]byte{byte(c.Kind)}, c.Path), c.Other)
	out = slowNumber(out, c.Mode, c.User, c.Group, c.Time)
	out = slowText(out, string(c.Data))
	return slowNumber(out, c.Env.User, c.Env.Group, c.Env.Mask, c.Env.Dir), api.OK
}

func slowPutTree(t api.Tree) ([]byte, api.Errno) {
	if len(t.Nodes) > 513 {
		return nil, api.ErrArg
	}
	out := slowNumber(nil, t.Now)
	out = binary.LittleEndian.AppendUint32(out, uint32(len(t.Nodes)))
	for _, n := range t.Nodes {
		if len(n.List) > 512 || max(len(n.Data), len(n.Target)) > 65536 {
			return nil, api.ErrArg
		}
		out = slowNumber(append(out, byte(n.Kind)), n.Mode, n.User, n.Group, n.Links, n.Time)
		out = slowText(slowText(out, string(n.Data)), n.Target)
		out = binary.LittleEndian.AppendUint32(out, uint32(len(n.List)))
		for _, e := range n.List {
			if len(e.Name) > 65536 {
				return nil, api.ErrArg
			}
			out = slowNumber(slowText(out, e.Name), e.Node)
		}
		out = slowNumber(out, n.Parent)
	}
	return out, api.OK
}

// slowBytes panics where the bytes end, or a length is too great.
type slowBytes struct {
	all []byte
	at  int
}

func (s *slowBytes) next(n int) []byte {
	s.at += n
	return s.all[s.at-n : s.at : len(s.all)]
}

func (s *slowBytes) number() int { return int(binary.LittleEndian.Uint64(s.next(8))) }

func (s *slowBytes) length(limit uint32) int {
	n := binary.LittleEndian.Uint32(s.next(4))
	if n > limit {
		panic("too great")
	}
	return int(n)
}

func (s *slowBytes) text() string { return string(s.next(s.length(65536))) }

func slowGet(b []byte) (c api.Call, n int, err api.Errno) {
	defer func() {
		if recover() != nil {
			c, n, err = api.Call{}, 0, api.ErrForm
		}
	}()
	s := slowBytes{all: slices.Clip(b)}
	c.Kind = api.CallKind(s.next(1)[0])
	c.Path = s.text()
	c.Other = s.text()
	c.Mode = s.number()
	c.User = s.number()
	c.Group = s.number()
	c.Time = s.number()
	c.Data = []byte(s.text())
	c.Env.User = s.number()
	c.Env.Group = s.number()
	c.Env.Mask = s.number()
	c.Env.Dir = s.number()
	return c, s.at, api.OK
}

func slowGetTree(b []byte) (t api.Tree, n int, err api.Errno) {
	defer func() {
		if recover() != nil {
			t, n, err = api.Tree{}, 0, api.ErrForm
		}
	}()
	s := slowBytes{all: slices.Clip(b)}
	t.Now = s.number()
	t.Nodes = make([]api.Node, s.length(513))
	for i := range t.Nodes {
		n := &t.Nodes[i]
		n.Kind = api.NodeKind(s.next(1)[0])
		n.Mode = s.number()
		n.User = s.number()
		n.Group = s.number()
		n.Links = s.number()
		n.Time = s.number()
		n.Data = []byte(s.text())
		n.Target = s.text()
		n.List = make([]api.Entry, s.length(512))
		for k := range n.List {
			n.List[k].Name = s.text()
			n.List[k].Node = s.number()
		}
		n.Parent = s.number()
	}
	return t, s.at, api.OK
}

// put: Put, held against the slow reading; what was handed in is as it was, and Get of it is the call.
func put(t *testing.T, c api.Call) ([]byte, api.Errno) {
	t.Helper()
	was := copyCall(c)
	got, err := codec.Put(c)
	want, wantErr := slowPut(was)
	if err != wantErr || !bytes.Equal(got, want) {
		t.Errorf("Put of kind %d, %d, %d, %d bytes: %d bytes, %d, want %d bytes, %d", c.Kind, len(c.Path), len(c.Other), len(c.Data), len(got), err, len(want), wantErr)
	}
	if !sameCall(c, was) {
		t.Error("Put changed the call")
	}
	if err == api.OK {
		back, n, err := codec.Get(got)
		if err != api.OK || n != len(got) || !sameCall(back, was) {
			t.Errorf("Get of Put: %d of %d bytes, %d", n, len(got), err)
		}
	}
	return got, err
}

// get: Get, likewise; Put of it is the bytes that it had.
func get(t *testing.T, b []byte) (api.Call, int, api.Errno) {
	t.Helper()
	was := bytes.Clone(b[:cap(b)])
	got, n, err := codec.Get(b)
	want, wantN, wantErr := slowGet(was[:len(b)])
	if err != wantErr || n != wantN || !sameCall(got, want) {
		t.Errorf("Get of %d bytes: %d, %d, want %d, %d", len(b), n, err, wantN, wantErr)
	}
	if err != api.OK && !reflect.DeepEqual(got, api.Call{}) {
		t.Errorf("Get of %d bytes: a call beside an error", len(b))
	}
	if !bytes.Equal(b[:cap(b)], was) {
		t.Error("Get changed the bytes")
	}
	if err == api.OK {
		if again, err := codec.Put(got); err != api.OK || !bytes.Equal(again, was[:n]) {
			t.Errorf("Put of Get: %d bytes, %d, want %d bytes", len(again), err, n)
		}
	}
	return got, n, err
}

func putTree(t *testing.T, x api.Tree) ([]byte, api.Errno) {
	t.Helper()
	was := copyTree(x)
	got, err := codec.PutTree(x)
	want, wantErr := slowPutTree(was)
	if err != wantErr || !bytes.Equal(got, want) {
		t.Errorf("PutTree of %d nodes: %d bytes, %d, want %d bytes, %d", len(x.Nodes), len(got), err, len(want), wantErr)
	}
	if !sameTree(x, was) {
		t.Error("PutTree changed the tree")
	}
	if err == api.OK {
		back, n, err := codec.GetTree(got)
		if err != api.OK || n != len(got) || !sameTree(back, was) {
			t.Errorf("GetTree of PutTree: %d of %d bytes, %d", n, len(got), err)
		}
	}
	return got, err
}

func getTree(t *testing.T, b []byte) (api.Tree, int, api.Errno) {
	t.Helper()
	was := bytes.Clone(b[:cap(b)])
	got, n, err := codec.GetTree(b)
	want, wantN, wantErr := slowGetTree(was[:len(b)])
	if err != wantErr || n != wantN || !sameTree(got, want) {
		t.Errorf("GetTree of %d bytes: %d, %d, want %d, %d", len(b), n, err, wantN, wantErr)
	}
	if err != api.OK && !reflect.DeepEqual(got, api.Tree{}) {
		t.Errorf("GetTree of %d bytes: a tree beside an error", len(b))
	}
	if !bytes.Equal(b[:cap(b)], was) {
		t.Error("GetTree changed the bytes")
	}
	if err == api.OK {
		if again, err := codec.PutTree(got); err != api.OK || !bytes.Equal(again, was[:n]) {
			t.Errorf("PutTree of GetTree: %d bytes, %d, want %d bytes", len(again), err, n)
		}
	}
	return got, n, err
}

// wantErr says so, if an error is not the one that is asked for.
func wantErr(t *testing.T, what string, got, want api.Errno) {
	t.Helper()
	if got != want {
		t.Errorf("%s: %d, want %d", what, got, want)
	}
}
