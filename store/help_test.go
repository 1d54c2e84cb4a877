package store_test

import (
	"bytes"
	"math/rand"
	"strconv"
	"strings"
	"testing"

	"toolchest/api"
	"toolchest/calls"
	"toolchest/codec"
	"toolchest/store"
	"toolchest/tree"
)

var master = api.Env{Mask: 0o022, Dir: 1}

func write(p, s string) api.Call {
	return api.Call{Kind: api.CaWrite, Path: p, Mode: 0o666, Data: []byte(s), Env: master}
}

func lengthen(p, s string) api.Call {
	return api.Call{Kind: api.CaAppend, Path: p, Mode: 0o666, Data: []byte(s), Env: master}
}

func mkdir(p string) api.Call {
	return api.Call{Kind: api.CaMkdir, Path: p, Mode: 0o777, Env: master}
}

func rmdir(p string) api.Call { return api.Call{Kind: api.CaRmdir, Path: p, Env: master} }

func unlink(p string) api.Call { return api.Call{Kind: api.CaUnlink, Path: p, Env: master} }

func link(p, o string) api.Call { return api.Call{Kind: api.CaLink, Path: p, Other: o, Env: master} }

func symlink(p, o string) api.Call {
	return api.Call{Kind: api.CaSymlink, Path: p, Other: o, Env: master}
}

func rename(p, o string) api.Call {
	return api.Call{Kind: api.CaRename, Path: p, Other: o, Env: master}
}

func chmod(p string, mode int) api.Call {
	return api.Call{Kind: api.CaChmod, Path: p, Mode: mode, Env: master}
}

func chown(p string, user, group int) api.Call {
	return api.Call{Kind: api.CaChown, Path: p, User: user, Group: group, Env: master}
}

func touch(p string, time int) api.Call {
	return api.Call{Kind: api.CaTouch, Path: p, Time: time, Env: master}
}

func tick(time int) api.Call { return api.Call{Kind: api.CaTick, Time: time, Env: master} }

func oneOf[T any](r *rand.Rand, of ...T) T { return of[r.Intn(len(of))] }

func randomPath(r *rand.Rand) string {
	out := oneOf(r, "", "", "/")
	for i := range 1 + min(r.Intn(3), r.Intn(3)) {
		if i > 0 {
			out += "/"
		}
		out += oneOf(r, "a", "a", "b", "b", "c", "d", "e", strings.Repeat("n", api.MaxName))
	}
	return out
}

// randomCall: of any kind, with texts of at most so many bytes; now and then one that is refused.
func randomCall(r *rand.Rand, long int) api.Call {
	path, other := randomPath(r), randomPath(r)
	data := make([]byte, oneOf(r, 0, 1, r.Intn(20), r.Intn(long+1)))
	r.Read(data)
	c := oneOf(r, write(path, string(data)), write(path, string(data)), lengthen(path, string(data)), lengthen(path, string(data)), mkdir(path), mkdir(path), rmdir(path), unlink(path), link(path, other), symlink(other, path), rename(path, other), chmod(path, r.Intn(512)), chown(path, r.Intn(9)-1, r.Intn(9)-1), touch(path, r.Intn(9)-1), tick(r.Intn(9)))
	c.Env.User = oneOf(r, 0, 0, 0, 0, 5)
	if r.Intn(50) == 0 {
		c.Mode = -1
	}
	return c
}

func treeBytes(t *testing.T, x api.Tree) []byte {
	t.Helper()
	out, err := codec.PutTree(x)
	if err != api.OK {
		t.Fatalf("PutTree: %d", err)
	}
	return out
}

func same(t *testing.T, x, y api.Tree) bool {
	t.Helper()
	return bytes.Equal(treeBytes(t, x), treeBytes(t, y))
}

func formatted(t *testing.T, size int) []byte {
	t.Helper()
	disk, err := store.Format(size)
	if err != api.OK || len(disk) != size {
		t.Fatalf("Format(%d): %d bytes, %d", size, len(disk), err)
	}
	return disk
}

// opened: a store of a disk, which is left as it was.
func opened(t *testing.T, disk []byte) *store.Store {
	t.Helper()
	was := codec.Sum(disk)
	s, err := store.Open(disk)
	if err != api.OK || s == nil {
		t.Fatalf("Open of %d bytes: %d", len(disk), err)
	}
	if codec.Sum(disk) != was {
		t.Fatal("Open changed the disk")
	}
	return s
}

func newStore(t *testing.T, size int) *store.Store {
	t.Helper()
	return opened(t, formatted(t, size))
}

func crashed(t *testing.T, s *store.Store, writes, bytes int) []byte {
	t.Helper()
	disk, err := s.Crash(writes, bytes)
	if err != api.OK {
		t.Fatalf("Crash(%d, %d): %d", writes, bytes, err)
	}
	return disk
}

// found: the tree that Open finds where the power failed.
func found(t *testing.T, s *store.Store, writes, bytes int) api.Tree {
	t.Helper()
	return opened(t, crashed(t, s, writes, bytes)).Tree()
}

func wantTree(t *testing.T, what string, got, want api.Tree) {
	t.Helper()
	if !same(t, got, want) {
		t.Fatalf("%s: %+v, want %+v", what, got, want)
	}
}

// do: a call that is not refused.
func do(t *testing.T, s *store.Store, all ...api.Call) {
	t.Helper()
	for _, c := range all {
		if err := s.Do(c); err != api.OK {
			t.Fatalf("Do of kind %d, %q: %d", c.Kind, c.Path, err)
		}
	}
}

func synced(t *testing.T, s *store.Store) {
	t.Helper()
	if err := s.Sync(); err != api.OK {
		t.Fatalf("Sync: %d", err)
	}
}

// need: how many bytes a disk has that is roomy for a call.
func need(t *testing.T, ahead, behind api.Tree, c api.Call) int {
	t.Helper()
	put, err := codec.Put(c)
	if err != api.OK {
		t.Fatalf("Put: %d", err)
	}
	return 8*max(len(treeBytes(t, ahead)), len(treeBytes(t, behind))) + 8*len(put) + 8192
}

// life is a store, and what is known of it: the size of its disk, its tree, and the bytes of the trees that it had, from the one behind the latest Sync on.
type life struct {
	*store.Store
	size  int
	tree  api.Tree
	trees [][]byte
}

func newLife(t *testing.T, size int) *life {
	t.Helper()
	return &life{newStore(t, size), size, tree.New(), [][]byte{treeBytes(t, tree.New())}}
}

// do: a call, held against calls.Do; ErrFull just where the disk is not roomy; what is refused leaves all as it was.
func (l *life) do(t *testing.T, c api.Call) api.Errno {
	t.Helper()
	want, wantErr := calls.Do(l.tree, c)
	waited := len(store.Waiting(l.Store))
	err := l.Do(c)
	if err == api.ErrFull && wantErr == api.OK {
		if n := need(t, l.tree, want, c); n <= l.size {
			t.Fatalf("Do of kind %d, %q: full, with %d of %d bytes", c.Kind, c.Path, n, l.size)
		}
		wantErr = api.ErrFull
	}
	if err != wantErr {
		t.Fatalf("Do of kind %d, %q, %q: %d, want %d", c.Kind, c.Path, c.Other, err, wantErr)
	}
	if err == api.OK {
		l.tree, l.trees = want, append(l.trees, treeBytes(t, want))
	} else if n := len(store.Waiting(l.Store)); n != waited {
		t.Fatalf("Do: %d, and %d writes wait, not %d", err, n, waited)
	}
	wantTree(t, "the tree behind Do: "+strconv.Itoa(int(err)), l.Tree(), l.tree)
	return err
}

func (l *life) sync(t *testing.T) {
	t.Helper()
	synced(t, l.Store)
	l.trees = l.trees[len(l.trees)-1:]
}

// at: which of its trees it is, the first one from a place on; a tree that it never had is a fault.
func (l *life) at(t *testing.T, x api.Tree, from int, where string) int {
	t.Helper()
	told := treeBytes(t, x)
	for i := from; i < len(l.trees); i++ {
		if bytes.Equal(l.trees[i], told) {
			return i
		}
	}
	t.Fatalf("%s: no tree that it had from the place %d on: %+v", where, from, x)
	return 0
}

// crash: the power fails, and the store is opened anew.
func (l *life) crash(t *testing.T, writes, more int) {
	t.Helper()
	disk := crashed(t, l.Store, writes, more)
	l.Store = opened(t, disk)
	l.tree = l.Tree()
	i := l.at(t, l.tree, 0, "a crash")
	l.trees = l.trees[i : i+1]
	if !bytes.Equal(crashed(t, l.Store, 0, 0), disk) || !bytes.Equal(crashed(t, l.Store, 9, 9), disk) {
		t.Fatal("a store that was opened has writes that are not sure")
	}
}
