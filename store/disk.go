package store

import (
	"bytes"
	"slices"
	"strings"

	"toolchest/api"
	"toolchest/calls"
	"toolchest/codec"
	"toolchest/tree"
)

// How a disk is laid out: its head, which stays as it is; a byte that says which of two halves is in use; the halves. One in use has a tree's bytes and their sum, then the calls that were done to it, each a sign, its bytes and their sum, then the sign of the end. What stands behind that, and in the other half, may be any bytes.
//
// Of what is in use, just one byte is ever written over, when all that it brings into use has been written: the sign of the end, or the byte that says which half. So, wherever the writes are cut off, the disk tells the tree that was there ahead of that byte, or the one behind it; it hangs on no sum. Sums are there to tell what is no disk.
const (
	mark    = "toolchest disk\n"
	wordLen = 4 // bytes of a number, the lowest first
	useAt   = len(mark) + wordLen
	bodyAt  = useAt + 1

	// No change of one bit makes one of these another one.
	halfNames = "ab"
	oneMore   = '+'
	noMore    = '.'
)

// fewCalls: how many bytes of calls stand in a half, beyond as many as the tree has, ahead of the tree being written anew. So no more of them are done again where a disk is opened, and what waits grows by what was asked for, however great the tree is.
const fewCalls = 8192

// place is where a disk tells a tree.
type place struct {
	half  int // the one in use
	to    int // where that ends
	calls int // where the calls begin
	end   int // the sign behind the last one
}

// head: of a disk of so many bytes, so that no longer or shorter one passes for it.
func head(size int) []byte { return append([]byte(mark), word(uint32(size))...) }

func word(n uint32) []byte { return []byte{byte(n), byte(n >> 8), byte(n >> 16), byte(n >> 24)} }

func halfLen(size int) int { return (size - bodyAt) / 2 }

// halfOf: where a half begins and ends.
func halfOf(size, half int) (from, to int) {
	from = bodyAt + half*halfLen(size)
	return from, from + halfLen(size)
}

// mostOfTree: how many bytes a tree may have: a half takes as many of calls behind them.
func mostOfTree(size int) int { return halfLen(size) / 2 }

func withSum(b []byte) []byte { return slices.Concat(b, word(codec.Sum(b))) }

// hasSum: whether the sum of the first so many bytes stands behind them.
func hasSum(b []byte, n int) bool { return bytes.HasPrefix(b[n:], word(codec.Sum(b[:n]))) }

// mayTake: whether a call goes behind those that are there.
func (p place) mayTake(callBytes, treeBytes []byte) bool {
	room := len(callBytes) + wordLen + 2 // the signs ahead and behind
	return room <= p.to-p.end && p.end-p.calls <= len(treeBytes)+fewCalls
}

// writesOfCall: those that put a call behind the last one, and where the tree is told then.
func writesOfCall(p place, callBytes []byte) ([]write, place) {
	summed := withSum(callBytes)
	ahead := write{p.end + 1, append(summed, noMore)}
	use := write{p.end, []byte{oneMore}}
	p.end += 1 + len(summed)
	return []write{ahead, use}, p
}

// writesOfTree: those that put a tree into a half, and that half into use.
func writesOfTree(size, half int, treeBytes []byte) ([]write, place) {
	from, to := halfOf(size, half)
	summed := withSum(treeBytes)
	ahead := write{from, append(summed, noMore)}
	use := write{useAt, []byte{halfNames[half]}}
	end := from + len(summed)
	return []write{ahead, use}, place{half: half, to: to, calls: end, end: end}
}

// read: the tree that a disk tells, and where; whether it is one.
func read(disk []byte) (api.Tree, place, bool) {
	half, ok := halfInUse(disk)
	if !ok {
		return api.Tree{}, place{}, false
	}
	from, to := halfOf(len(disk), half)
	left := disk[from:to]
	t, n, err := codec.GetTree(left)
	if err != api.OK || !hasSum(left, n) || !tree.Check(t) {
		return api.Tree{}, place{}, false
	}
	left = left[n+wordLen:]
	p := place{half: half, to: to, calls: to - len(left)}
	for len(left) > 0 && left[0] == oneMore && ok {
		t, n, ok = doneAgain(t, left[1:])
		left = left[1+n:]
	}
	if !ok || len(left) == 0 || left[0] != noMore {
		return api.Tree{}, place{}, false
	}
	p.end = to - len(left)
	return t, p, true
}

// halfInUse: which one, if the head is that of such a disk.
func halfInUse(disk []byte) (int, bool) {
	if len(disk) < minDisk || !bytes.HasPrefix(disk, head(len(disk))) {
		return 0, false
	}
	half := strings.IndexByte(halfNames, disk[useAt])
	return half, half >= 0
}

// doneAgain: the tree behind the call that stands in front; how many bytes that and its sum have.
func doneAgain(t api.Tree, left []byte) (api.Tree, int, bool) {
	c, n, err := codec.Get(left)
	if err != api.OK || !hasSum(left, n) {
		return api.Tree{}, 0, false
	}
	behind, err := calls.Do(t, c)
	return behind, n + wordLen, err == api.OK
}
