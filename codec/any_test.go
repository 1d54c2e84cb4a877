package codec_test

import (
	"bytes"
	"encoding/binary"
	"math/rand"
	"reflect"
	"sync"
	"testing"

	"toolchest/api"
	"toolchest/codec"
)

func oneOf[T any](r *rand.Rand, of ...T) T { return of[r.Intn(len(of))] }

func anyNumber(r *rand.Rand) int {
	return oneOf(r, 0, 1, -1, r.Intn(1000), int(r.Uint64()), int(r.Uint64()>>r.Intn(64)), oneOf(r, numbers()...))
}

func anyText(r *rand.Rand) string {
	b := make([]byte, oneOf(r, 0, 0, 1, 2, r.Intn(20), r.Intn(300)))
	r.Read(b)
	return string(b)
}

func anyCall(r *rand.Rand) api.Call {
	c := api.Call{Kind: api.CallKind(r.Intn(256)), Path: anyText(r), Other: anyText(r), Data: []byte(anyText(r))}
	for _, place := range callNumbers(&c) {
		*place = anyNumber(r)
	}
	if r.Intn(200) == 0 {
		setText(&c, r.Intn(3), longText(api.MaxFile+r.Intn(3)-1))
	}
	return c
}

func anyNode(r *rand.Rand) api.Node {
	n := api.Node{Kind: api.NodeKind(oneOf(r, 0, 1, 2, 3, r.Intn(256))), Data: []byte(anyText(r)), Target: anyText(r)}
	for _, place := range []*int{&n.Mode, &n.User, &n.Group, &n.Links, &n.Time, &n.Parent} {
		*place = anyNumber(r)
	}
	for range oneOf(r, 0, 0, 1, 2, r.Intn(10)) {
		n.List = append(n.List, api.Entry{Name: anyText(r), Node: anyNumber(r)})
	}
	return n
}

func anyTree(r *rand.Rand) api.Tree {
	x := api.Tree{Now: anyNumber(r)}
	for range oneOf(r, 0, 1, 2, 3, r.Intn(12)) {
		x.Nodes = append(x.Nodes, anyNode(r))
	}
	return x
}

// spoil changes some of the bytes, takes some away or puts some in.
func spoil(r *rand.Rand, b []byte) []byte {
	b = bytes.Clone(b)
	for range 1 + r.Intn(3) {
		at := r.Intn(len(b) + 1)
		switch r.Intn(5) {
		case 0:
			b = b[:at]
		case 1:
			b = append(b[:at:at], append([]byte(anyText(r)), b[at:]...)...)
		case 2:
			b = append(b[:at:at], b[min(len(b), at+r.Intn(9)):]...)
		case 3:
			if at < len(b) {
				b[at] ^= byte(1 << r.Intn(8))
			}
		case 4:
			if at+4 <= len(b) {
				binary.LittleEndian.PutUint32(b[at:], oneOf(r, 0, 1, 2, 5, 512, 513, 514, 65536, 65537, r.Uint32()))
			}
		}
	}
	return b
}

// P16.1, P16.4: any calls, and their bytes spoilt, held against the slow reading.
func TestAnyCall(t *testing.T) {
	r := rand.New(rand.NewSource(1))
	met := map[api.Errno]int{}
	for range 10000 {
		b, err := put(t, anyCall(r))
		if err != api.OK {
			continue
		}
		get(t, b)
		for range 3 {
			_, _, err := get(t, spoil(r, b))
			met[err]++
		}
	}
	if met[api.OK] < 1000 || met[api.ErrForm] < 1000 || len(met) != 2 {
		t.Error("errors met:", met)
	}
}

// P16.2, P16.4: any trees, such as may not be too, likewise.
func TestAnyTree(t *testing.T) {
	r := rand.New(rand.NewSource(2))
	met := map[api.Errno]int{}
	for range 4000 {
		b, err := putTree(t, anyTree(r))
		if err != api.OK {
			continue
		}
		getTree(t, b)
		for range 5 {
			_, _, err := getTree(t, spoil(r, b))
			met[err]++
		}
	}
	if met[api.OK] < 1000 || met[api.ErrForm] < 1000 || len(met) != 2 {
		t.Error("errors met:", met)
	}
}

// R1: any bytes.
func TestAnyBytes(t *testing.T) {
	r := rand.New(rand.NewSource(3))
	for range 20000 {
		b := make([]byte, r.Intn(300))
		if r.Intn(2) == 0 {
			r.Read(b)
		} else { // mostly bytes 0, so that lengths are short
			for i := range b {
				b[i] = byte(oneOf(r, 0, 0, 0, 0, 0, 0, 0, r.Intn(3), r.Intn(256)))
			}
		}
		get(t, b)
		getTree(t, b)
	}
}

// R5: whoever else calls, and whatever was called ahead, an answer is the same.
func TestAgain(t *testing.T) {
	calls, trees := make([]api.Call, 50), make([]api.Tree, 50)
	r := rand.New(rand.NewSource(4))
	for i := range calls {
		calls[i], trees[i] = anyCall(r), anyTree(r)
	}
	type answers struct {
		call, tree       []byte
		callErr, treeErr api.Errno
		callSum, treeSum uint32
	}
	ask := func(i int) answers {
		var a answers
		a.call, a.callErr = codec.Put(calls[i])
		a.tree, a.treeErr = codec.PutTree(trees[i])
		a.callSum, a.treeSum = codec.Sum(a.call), codec.Sum(a.tree)
		return a
	}
	got := make([][]answers, 4)
	var all sync.WaitGroup
	for g := range got {
		all.Go(func() {
			for k := range calls {
				got[g] = append(got[g], ask((k+g*7)%len(calls)))
			}
		})
	}
	all.Wait()
	for g := range got {
		for k := range calls {
			if i := (k + g*7) % len(calls); !reflect.DeepEqual(got[g][k], ask(i)) {
				t.Errorf("the answers of %d are not the same again", i)
			}
		}
	}
}
