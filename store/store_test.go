package store_test

import (
	"bytes"
	"math"
	"math/rand"
	"slices"
	"strconv"
	"strings"
	"testing"
	"unsafe"

	"toolchest/api"
	"toolchest/calls"
	"toolchest/codec"
	"toolchest/store"
	"toolchest/tree"
)

// The chapter's examples.
func TestExamples(t *testing.T) {
	s := newStore(t, 100000)
	do(t, s, write("a", "x"))
	wantTree(t, "ahead of Sync", found(t, s, 0, 0), tree.New())
	synced(t, s)
	want, _ := calls.Do(tree.New(), write("a", "x"))
	wantTree(t, "behind Sync", found(t, s, 0, 0), want)
	if s, err := store.Open(nil); s != nil || err != api.ErrForm {
		t.Errorf("Open of nothing: %d", err)
	}
	if disk, err := store.Format(4095); disk != nil || err != api.ErrArg {
		t.Errorf("Format(4095): %d", err)
	}
}

// P17.1: disks of all sizes that may be, and others.
func TestFormat(t *testing.T) {
	for _, size := range []int{4096, 4097, 4098, 4099, 5000, 65536, 100001, 1 << 20, api.MaxDisk - 1, api.MaxDisk} {
		disk := formatted(t, size)
		s := opened(t, disk)
		wantTree(t, "Open of Format", s.Tree(), tree.New())
		if !bytes.Equal(crashed(t, s, 0, 0), disk) || !bytes.Equal(crashed(t, s, 5, 5), disk) {
			t.Errorf("Format(%d): there are writes that are not sure", size)
		}
		do(t, s, tick(1))
		if found(t, s, 2, 0).Now != 1 || found(t, s, 0, 0).Now != 0 {
			t.Errorf("Format(%d): a call is not kept", size)
		}
	}
	for size := 4096; size < 4200; size++ {
		wantTree(t, "Open of Format("+strconv.Itoa(size)+")", newStore(t, size).Tree(), tree.New())
	}
	for _, size := range []int{0, 1, -1, 4095, -4096, api.MaxDisk + 1, 1 << 32, 1<<32 + 4096, math.MaxInt, math.MinInt} {
		if disk, err := store.Format(size); len(disk) != 0 || err != api.ErrArg {
			t.Errorf("Format(%d): %d bytes, %d", size, len(disk), err)
		}
	}
}

func wantNone(t *testing.T, what string, disk []byte, want api.Errno) {
	t.Helper()
	if s, err := store.Open(disk); s != nil || err != want {
		t.Errorf("Open of %s: %d, want %d", what, err, want)
	}
}

// P17.1: bytes that are no disk.
func TestOpenRefuses(t *testing.T) {
	disk := formatted(t, 8192)
	for _, n := range []int{1, 2, 100, 4095, 4096, 4097, 8191} {
		wantNone(t, "the first "+strconv.Itoa(n)+" bytes", disk[:n], api.ErrForm)
		wantNone(t, "the last "+strconv.Itoa(n)+" bytes", disk[8192-n:], api.ErrForm)
	}
	wantNone(t, "a disk and one byte", append(bytes.Clone(disk), 0), api.ErrForm)
	wantNone(t, "two disks", append(bytes.Clone(disk), disk...), api.ErrForm)
	wantNone(t, "a byte and a disk", append([]byte{0}, disk...), api.ErrForm)
	for _, n := range []int{0, 1, 4095, 4096, 8192, 1 << 20, api.MaxDisk} {
		for _, b := range []byte{0, 1, 'a', 255} {
			wantNone(t, strconv.Itoa(n)+" bytes "+strconv.Itoa(int(b)), bytes.Repeat([]byte{b}, n), api.ErrForm)
		}
	}
	r := rand.New(rand.NewSource(17))
	for range 2000 {
		b := make([]byte, 4000+r.Intn(1000))
		r.Read(b)
		wantNone(t, "any bytes", b, api.ErrForm)
		copy(b, formatted(t, 4096)[:r.Intn(60)])
		wantNone(t, "any bytes behind a head", b, api.ErrForm)
	}
	great := append(formatted(t, api.MaxDisk), 0)
	wantNone(t, "a disk of MaxDisk, and one byte", great, api.ErrLimit)
	wantNone(t, "MaxDisk + 1 bytes", make([]byte, api.MaxDisk+1), api.ErrLimit)
	wantNone(t, "far too many bytes", make([]byte, 4*api.MaxDisk), api.ErrLimit)
}

// usedStore: with calls that are told by both halves of the disk, three of them not sure; all trees that it had.
func usedStore(t *testing.T) (*life, map[string]bool) {
	t.Helper()
	l, all := newLife(t, 4096), map[string]bool{}
	for i := range 25 {
		l.do(t, lengthen("f"+strconv.Itoa(i%3), strings.Repeat("x", i)))
		all[string(treeBytes(t, l.tree))] = true
	}
	l.sync(t)
	for i := range 3 {
		l.do(t, mkdir("d"+strconv.Itoa(i)))
		all[string(treeBytes(t, l.tree))] = true
	}
	return l, all
}

// P17.1, R1: a disk with a bit that is changed is none, or one whose tree is as it was; one with other bytes is none, or one with a tree that there was, and may be used.
func TestSpoiltDisk(t *testing.T) {
	l, all := usedStore(t)
	l.sync(t)
	disk := crashed(t, l.Store, 0, 0)
	refused := 0
	for at := range disk {
		for bit := range 8 {
			disk[at] ^= 1 << bit
			s, err := store.Open(disk)
			disk[at] ^= 1 << bit
			if err == api.ErrForm && s == nil {
				refused++
				continue
			}
			if err != api.OK || !same(t, s.Tree(), l.tree) {
				t.Fatalf("the bit %d of the byte %d: %d, and another tree", bit, at, err)
			}
		}
	}
	if used := len(treeBytes(t, l.tree)); refused < 8*used {
		t.Errorf("%d changed bits are seen, of a tree of %d bytes", refused, used)
	}
	r := rand.New(rand.NewSource(18))
	for range 5000 {
		b := bytes.Clone(disk)
		for range 1 + r.Intn(3) {
			b[r.Intn(len(b))] = byte(r.Intn(256))
		}
		s, err := store.Open(b)
		if err == api.ErrForm {
			continue
		}
		if err != api.OK || !all[string(treeBytes(t, s.Tree()))] {
			t.Fatalf("changed bytes: %d, and another tree", err)
		}
		do(t, s, tick(1), tick(1))
		wantTree(t, "what was opened, crashed", found(t, s, 9, 0), s.Tree())
	}
}

// P17.1: the first bytes of one disk and the others of another one are no disk, or one with a tree that there was. (Where calls of both stand in a row, one of the other is refused.)
func TestMixedDisks(t *testing.T) {
	all := map[string]bool{}
	var disks [][]byte
	for _, name := range []string{"d", "x"} {
		l := newLife(t, 4096)
		for _, c := range []api.Call{mkdir(name), mkdir(name + "/e"), write(name+"/e/f", "data"), unlink(name + "/e/f")} {
			l.do(t, c)
			all[string(treeBytes(t, l.tree))] = true
		}
		l.sync(t)
		disks = append(disks, crashed(t, l.Store, 0, 0))
	}
	refused := 0
	for at := range disks[0] {
		s, err := store.Open(slices.Concat(disks[0][:at], disks[1][at:]))
		if err == api.ErrForm && s == nil {
			refused++
		} else if err != api.OK || !all[string(treeBytes(t, s.Tree()))] {
			t.Fatalf("mixed at the byte %d: %d, and another tree", at, err)
		}
	}
	if refused < 100 {
		t.Errorf("%d mixed disks are refused", refused)
	}
}

// P17.1: a tree that may not be, though its bytes and their sum are whole.
func TestForgedDisk(t *testing.T) {
	empty := treeBytes(t, tree.New())
	for mode, want := range map[int]api.Errno{0o700: api.OK, 0: api.OK, 512: api.ErrForm, -1: api.ErrForm} {
		x := tree.New()
		x.Nodes[1].Mode = mode
		told := treeBytes(t, x)
		sum := codec.Sum(told)
		disk := formatted(t, 5000)
		at := bytes.Index(disk, empty)
		if at < 0 {
			t.Fatal("a disk that does not tell the bytes of its tree")
		}
		copy(disk[at:], append(told, byte(sum), byte(sum>>8), byte(sum>>16), byte(sum>>24)))
		if s, err := store.Open(disk); err != want || (s != nil) != (want == api.OK) {
			t.Errorf("Open of a root with the mode %d: %d, want %d", mode, err, want)
		}
	}
}

// P17.2: calls.Do's errors; what is refused leaves all as it was.
func TestDoErrors(t *testing.T) {
	l := newLife(t, 200000)
	for _, c := range []api.Call{mkdir("d"), write("f", "x"), write("d/g", "y"), symlink("loop", "loop")} {
		if err := l.do(t, c); err != api.OK {
			t.Fatalf("Do: %d", err)
		}
	}
	guest := func(c api.Call) api.Call {
		c.Env.User = 5
		return c
	}
	long := strings.Repeat("x", api.MaxFile+1)
	for _, c := range []struct {
		call api.Call
		want api.Errno
	}{
		{api.Call{}, api.ErrArg}, {api.Call{Kind: 200}, api.ErrArg}, {tick(-1), api.ErrArg}, {chmod("f", 512), api.ErrArg},
		{api.Call{Kind: api.CaTick, Env: api.Env{Dir: 99}}, api.ErrArg}, {api.Call{Kind: api.CaTick, Path: long, Env: master}, api.ErrArg},
		{write("none/f", ""), api.ErrNone}, {mkdir("f"), api.ErrThere}, {write("d", ""), api.ErrDir}, {rmdir("f"), api.ErrNotDir},
		{guest(write("f", "z")), api.ErrPerm}, {write("loop", ""), api.ErrLoop}, {write(strings.Repeat("n", 65), ""), api.ErrName}, {write(long, ""), api.ErrName},
		{symlink(long, "l"), api.ErrName}, {rmdir("d"), api.ErrBusy}, {rename("d", "d/e"), api.ErrInto}, {write("f", long), api.ErrBig},
	} {
		first, all := crashed(t, l.Store, 0, 0), crashed(t, l.Store, 1<<30, 0)
		if err := l.do(t, c.call); err != c.want {
			t.Errorf("Do of kind %d, %.20q: %d, want %d", c.call.Kind, c.call.Path, err, c.want)
		}
		if !bytes.Equal(crashed(t, l.Store, 0, 0), first) || !bytes.Equal(crashed(t, l.Store, 1<<30, 0), all) {
			t.Errorf("Do: %d, and another disk", c.want)
		}
	}
}

// P17.2, P17.3: calls of all kinds, held against calls.Do.
func TestAnyCalls(t *testing.T) {
	r := rand.New(rand.NewSource(19))
	for range 30 {
		l := newLife(t, 1<<20)
		for range 150 {
			l.do(t, randomCall(r, 2000))
			if r.Intn(40) == 0 {
				l.sync(t)
			}
		}
		if at := l.at(t, found(t, l.Store, 0, 0), 0, "with nothing laid"); at != 0 {
			t.Fatalf("with nothing laid: the tree %d", at)
		}
		wantTree(t, "with all laid", found(t, l.Store, math.MaxInt, 0), l.tree)
	}
}

// P17.2: a disk that is full: what makes the tree no greater is still done.
func TestFull(t *testing.T) {
	r := rand.New(rand.NewSource(20))
	for _, size := range []int{4096, 4097, 5000, 8192, 30000} {
		l := newLife(t, size)
		full, less := 0, 0
		for range 1500 {
			c := randomCall(r, size/8)
			behind, wantErr := calls.Do(l.tree, c)
			long := len(treeBytes(t, l.tree))
			err := l.do(t, c)
			if wantErr != api.OK {
				continue
			}
			if err == api.ErrFull {
				full++
			}
			if len(treeBytes(t, behind)) <= long {
				if err != api.OK {
					t.Fatalf("Do of kind %d that leaves no greater tree: %d", c.Kind, err)
				}
				less++
			}
		}
		if full < 20 || less < 100 {
			t.Errorf("%d bytes: %d times full, %d times a call that leaves no greater tree", size, full, less)
		}
	}
}

// P17.2: a disk that has just as many bytes as make it roomy for all calls of a run.
func TestRoomy(t *testing.T) {
	r := rand.New(rand.NewSource(21))
	for round := range 60 {
		var run []api.Call
		x, size := tree.New(), 4096
		for range 1 + r.Intn(120) {
			c := randomCall(r, oneOf(r, 10, 300, 5000))
			if behind, err := calls.Do(x, c); err == api.OK {
				run = append(run, c)
				size = max(size, need(t, x, behind, c))
				x = behind
			}
		}
		l := newLife(t, size)
		for _, c := range run {
			if err := l.do(t, c); err != api.OK {
				t.Fatalf("a disk of %d bytes, roomy: %d", size, err)
			}
			switch round % 3 {
			case 1:
				l.sync(t)
			case 2:
				l.crash(t, math.MaxInt, 0)
			}
		}
		wantTree(t, "behind the run", found(t, l.Store, math.MaxInt, 0), x)
	}
}

// P17.2: likewise, with a tree far greater than its calls.
func TestRoomyForGreatTrees(t *testing.T) {
	var run []api.Call
	x, size := tree.New(), 4096
	for i := range 100 {
		c := lengthen("f"+strconv.Itoa(i%10), strings.Repeat("x", 6000))
		behind, err := calls.Do(x, c)
		if err != api.OK {
			t.Fatalf("calls.Do: %d", err)
		}
		run = append(run, c)
		size = max(size, need(t, x, behind, c))
		x = behind
	}
	s := newStore(t, size)
	do(t, s, run...)
	for i := range 300 {
		do(t, s, touch("f0", i))
	}
	x, _ = calls.Do(x, touch("f0", 299))
	wantTree(t, "with all laid", found(t, s, math.MaxInt, 0), x)
}

// P17.2: halves of any length, so that calls end just where they do.
func TestAnySize(t *testing.T) {
	for size := 4096; size < 4096+200; size++ {
		s := newStore(t, size)
		for i := range 60 {
			do(t, s, tick(1))
			if x := found(t, s, math.MaxInt, 0); x.Now != i+1 {
				t.Fatalf("a disk of %d bytes behind %d calls: the time %d", size, i+1, x.Now)
			}
		}
	}
}

// P17.2: a disk that was nearly filled by many calls is roomy for those that follow, once what filled it is gone.
func TestRoomyAgain(t *testing.T) {
	l := newLife(t, 40000)
	for round := range 20 {
		count := 0
		for l.do(t, write("f"+strconv.Itoa(count), strings.Repeat("x", 100*round+1))) == api.OK {
			count++
		}
		if count < 3 {
			t.Fatalf("full behind %d files", count)
		}
		for i := range count {
			if err := l.do(t, unlink("f"+strconv.Itoa(i))); err != api.OK {
				t.Fatalf("unlink: %d", err)
			}
		}
		wantTree(t, "with all laid", found(t, l.Store, math.MaxInt, 0), tree.New())
		if round%5 == 4 {
			l.sync(t)
		}
	}
}

// P17.2: the greatest trees and calls, on the greatest disk.
func TestGreatest(t *testing.T) {
	s := newStore(t, api.MaxDisk)
	x := tree.New()
	for i := range 511 {
		c := symlink(strings.Repeat("t", api.MaxPath), strings.Repeat("l", 60)+strconv.Itoa(1000+i))
		if i < 17 {
			c = write(strings.Repeat("f", 60)+strconv.Itoa(1000+i), strings.Repeat("x", min(api.MaxFile, api.MaxTree-i*api.MaxFile)))
		}
		do(t, s, c)
		if i%100 == 0 {
			synced(t, s)
		}
		x, _ = calls.Do(x, c)
	}
	for i := range 100 {
		c := write(strings.Repeat("f", 60)+strconv.Itoa(1000+i%16), strings.Repeat("y", api.MaxFile))
		do(t, s, c)
		x, _ = calls.Do(x, c)
	}
	wantTree(t, "the greatest tree", s.Tree(), x)
	wantTree(t, "with all laid", found(t, s, math.MaxInt, 0), x)
	synced(t, s)
	wantTree(t, "behind Sync", found(t, s, 0, 0), x)
}

// P17.2: behind Sync nothing waits.
func TestSync(t *testing.T) {
	l := newLife(t, 50000)
	synced(t, l.Store)
	wantTree(t, "Sync of nothing", found(t, l.Store, 0, 0), tree.New())
	for i := range 40 {
		for k := range i % 4 {
			l.do(t, lengthen("f"+strconv.Itoa(k), strings.Repeat("x", i)))
		}
		all := crashed(t, l.Store, math.MaxInt, 0)
		l.sync(t)
		if n := len(store.Waiting(l.Store)); n != 0 {
			t.Fatalf("behind Sync %d writes wait", n)
		}
		for _, n := range []int{0, 1, 1000} {
			if !bytes.Equal(crashed(t, l.Store, n, n), all) {
				t.Fatal("Sync did not lay all writes, or one waits")
			}
		}
		wantTree(t, "behind Sync", found(t, l.Store, 0, 0), l.tree)
		wantTree(t, "Tree behind Sync", l.Tree(), l.tree)
	}
}

// P17.4: wrong numbers, and such as are far too great.
func TestCrashNumbers(t *testing.T) {
	s := newStore(t, 10000)
	do(t, s, write("a", "x"), write("b", "y"))
	for _, n := range []int{-1, -2, math.MinInt, -1 << 32} {
		for _, c := range [][2]int{{n, 0}, {0, n}, {n, n}, {n, math.MaxInt}, {math.MaxInt, n}} {
			if disk, err := s.Crash(c[0], c[1]); disk != nil || err != api.ErrArg {
				t.Errorf("Crash(%d, %d): %d bytes, %d", c[0], c[1], len(disk), err)
			}
		}
	}
	all := crashed(t, s, len(store.Waiting(s)), 0)
	for _, n := range []int{100, 1 << 31, 1 << 32, math.MaxInt} {
		if !bytes.Equal(crashed(t, s, n, 0), all) || !bytes.Equal(crashed(t, s, n, math.MaxInt), all) || !bytes.Equal(crashed(t, s, n, 1), all) {
			t.Errorf("Crash(%d, ..) does not lay all", n)
		}
		if !bytes.Equal(crashed(t, s, 0, n), crashed(t, s, 1, 0)) {
			t.Errorf("Crash(0, %d) does not lay all of the first write, and no more", n)
		}
	}
}

// P17.4: the writes are laid in order, the next one byte by byte; what follows changes none of those that wait.
func TestCrashOrder(t *testing.T) {
	l, _ := usedStore(t)
	lengths := store.Waiting(l.Store)
	if len(lengths) < 2 {
		t.Fatalf("%d writes wait", len(lengths))
	}
	var ahead [][]byte
	was := crashed(t, l.Store, 0, 0)
	for n, long := range lengths {
		ahead = append(ahead, crashed(t, l.Store, n, 0))
		for b := range long + 3 {
			disk := crashed(t, l.Store, n, b)
			changed := 0
			for i := range disk {
				if disk[i] != was[i] {
					changed++
				}
			}
			if changed > 1 || b > long && changed > 0 {
				t.Fatalf("Crash(%d, %d): %d bytes are not as with one byte less", n, b, changed)
			}
			was = disk
		}
		if !bytes.Equal(was, crashed(t, l.Store, n+1, 0)) {
			t.Fatalf("all of the write %d: not as it and those ahead", n)
		}
	}
	wantTree(t, "the store behind Crash", l.Tree(), l.tree)
	if !slices.Equal(store.Waiting(l.Store), lengths) {
		t.Fatal("Crash changed what waits")
	}
	l.do(t, mkdir("more"))
	for n := range ahead {
		if !bytes.Equal(crashed(t, l.Store, n, 0), ahead[n]) {
			t.Fatalf("Crash(%d, 0) is another one behind one more call", n)
		}
	}
}

// P17.5, P0.4: the power fails at each byte of each write, such as put a whole tree anew, too.
func TestCutAnywhere(t *testing.T) {
	r := rand.New(rand.NewSource(22))
	writes, anew := 0, 0
	for round := range 8 {
		l := newLife(t, oneOf(r, 4096, 4097, 4100))
		for range r.Intn(100) {
			l.do(t, randomCall(r, 100))
		}
		if round%2 == 0 {
			l.sync(t)
		} else {
			l.crash(t, r.Intn(len(store.Waiting(l.Store))+2), r.Intn(200))
		}
		for len(store.Waiting(l.Store)) < 36 {
			l.do(t, randomCall(r, 200))
		}
		at := 0
		for n, long := range store.Waiting(l.Store) {
			at = l.at(t, found(t, l.Store, n, 0), at, "with some writes laid")
			if n == 0 && at != 0 {
				t.Fatalf("with nothing laid: the tree %d", at)
			}
			for b := 1; b <= long; b++ {
				l.at(t, found(t, l.Store, n, b), at, "with a part of a write laid")
			}
			writes++
			if long > 400 {
				anew++
			}
		}
		wantTree(t, "with all laid", found(t, l.Store, len(store.Waiting(l.Store)), 0), l.tree)
	}
	if anew < 6 {
		t.Errorf("of %d writes %d are trees", writes, anew)
	}
}

// P17.5, P0.4: lives with many calls, Syncs, failures of the power, one behind the other.
func TestLives(t *testing.T) {
	r := rand.New(rand.NewSource(23))
	for range 60 {
		l := newLife(t, oneOf(r, 4096, 5000, 9000, 40000, 200000))
		for range 30 {
			for range r.Intn(15) {
				l.do(t, randomCall(r, oneOf(r, 10, 100, 700)))
			}
			waits := store.Waiting(l.Store)
			switch r.Intn(5) {
			case 0:
				l.sync(t)
			case 1:
				l.crash(t, len(waits), 0)
			case 2, 3:
				n := r.Intn(len(waits) + 1)
				more := 0
				if n < len(waits) {
					more = r.Intn(waits[n] + 1)
				}
				l.crash(t, n, more)
			case 4:
				at := 0
				for n := range len(waits) + 1 {
					at = l.at(t, found(t, l.Store, n, 0), at, "with some writes laid")
				}
				wantTree(t, "with all laid", found(t, l.Store, len(waits), 0), l.tree)
			}
		}
	}
}

// What waits grows by what was asked for, on disks that are full, too; so does what is done again where a disk is opened.
func TestWaiting(t *testing.T) {
	for _, size := range []int{4096, 20000, 1 << 20, api.MaxDisk} {
		s := newStore(t, size)
		asked, put := 0, 0
		for i := range 800 {
			c := lengthen("f"+strconv.Itoa(i%40), strings.Repeat("x", 100))
			if s.Do(c) != api.OK {
				c = touch("f0", i)
				do(t, s, c)
			}
			b, _ := codec.Put(c)
			asked += len(b)
		}
		for _, n := range store.Waiting(s) {
			put += n
		}
		if put > 4*asked {
			t.Errorf("%d bytes wait for %d that were asked for, on a disk of %d", put, asked, size)
		}
		if n := slices.Max(store.Waiting(s)); n < len(treeBytes(t, s.Tree()))/4 {
			t.Errorf("the tree was never written anew, on a disk of %d: %d bytes", size, n)
		}
	}
}

// R3: a store that is not there, and one that no call made.
func TestNoStore(t *testing.T) {
	for _, s := range []*store.Store{nil, {}, new(store.Store)} {
		for _, c := range []api.Call{{}, tick(1), write("a", "x")} {
			if err := s.Do(c); err != api.ErrNil {
				t.Errorf("Do: %d", err)
			}
		}
		if err := s.Sync(); err != api.ErrNil {
			t.Errorf("Sync: %d", err)
		}
		if x := s.Tree(); x.Nodes != nil || x.Now != 0 {
			t.Errorf("Tree: %+v", x)
		}
		for _, n := range []int{0, 1, -1} {
			if disk, err := s.Crash(n, n); disk != nil || err != api.ErrNil {
				t.Errorf("Crash: %d", err)
			}
		}
	}
}

// scribble writes over a list, and its spare room.
func scribble(b []byte) {
	b = b[:cap(b)]
	for i := range b {
		b[i] ^= 0xa5
	}
}

// R4: the disk that is opened is not changed, its spare room neither, and not kept.
func TestDiskIsNotKept(t *testing.T) {
	room := append(formatted(t, 10000), "room behind"...)
	was := bytes.Clone(room)
	s, err := store.Open(room[:10000])
	if err != api.OK {
		t.Fatalf("Open: %d", err)
	}
	do(t, s, write("a", "x"), mkdir("d"))
	synced(t, s)
	do(t, s, write("b", "y"))
	crashed(t, s, 1, 1)
	if !bytes.Equal(room, was) {
		t.Error("the disk is changed")
	}
	x, disk := s.Tree(), crashed(t, s, 1, 1)
	scribble(room)
	wantTree(t, "behind a change of the disk", s.Tree(), x)
	if !bytes.Equal(crashed(t, s, 1, 1), disk) {
		t.Error("the disk is kept")
	}
	scribble(disk)
	wantTree(t, "behind a change of what Crash answered", found(t, s, 99, 0), x)
	other := crashed(t, s, 1, 1)
	synced(t, s)
	do(t, s, write("c", "z"))
	synced(t, s)
	if want := crashed(t, s, 0, 0); bytes.Equal(other, want) {
		t.Error("Crash's answer shares memory with the store")
	}
}

// R4: a call is not changed, and not kept. (Its texts are made of bytes that can be changed behind it.)
func TestCallIsNotKept(t *testing.T) {
	s := newStore(t, 10000)
	data := []byte("data and room")
	name, other := []byte("/name"), []byte("to where")
	do(t, s, api.Call{Kind: api.CaWrite, Path: unsafe.String(&name[0], 5), Mode: 0o644, Data: data[:4], Env: master})
	do(t, s, api.Call{Kind: api.CaSymlink, Path: unsafe.String(&other[0], 8), Other: unsafe.String(&name[0], 4), Env: master})
	if string(data) != "data and room" || string(name) != "/name" || string(other) != "to where" {
		t.Error("a call is changed")
	}
	want, _ := calls.Do(tree.New(), api.Call{Kind: api.CaWrite, Path: "name", Mode: 0o644, Data: []byte("data"), Env: master})
	want, _ = calls.Do(want, symlink("to where", "nam"))
	scribble(data)
	scribble(name)
	scribble(other)
	wantTree(t, "behind a change of the calls", s.Tree(), want)
	wantTree(t, "with all laid, behind a change of the calls", found(t, s, 99, 0), want)
}

// R4: the tree that is told is new memory.
func TestTreeIsNew(t *testing.T) {
	s := newStore(t, 10000)
	do(t, s, mkdir("d"), write("d/a", "content"), write("b", "more"), unlink("b"))
	want := treeBytes(t, s.Tree())
	for _, x := range []api.Tree{s.Tree(), found(t, s, 99, 0), s.Tree()} {
		for i := range x.Nodes {
			scribble(x.Nodes[i].Data)
			for k := range x.Nodes[i].List[:cap(x.Nodes[i].List)] {
				x.Nodes[i].List[:cap(x.Nodes[i].List)][k] = api.Entry{Name: "scribble", Node: 7}
			}
		}
		clear(x.Nodes[:cap(x.Nodes)])
		if !bytes.Equal(treeBytes(t, s.Tree()), want) {
			t.Fatal("Tree's answer shares memory with the store")
		}
	}
	wantTree(t, "with all laid", found(t, s, 99, 0), s.Tree())
}

// R5: two stores of one disk share nothing; what is done twice is done alike, byte by byte.
func TestTwoStores(t *testing.T) {
	disk := formatted(t, 20000)
	one, two, three := opened(t, disk), opened(t, disk), opened(t, disk)
	r := rand.New(rand.NewSource(24))
	for i := range 200 {
		c := randomCall(r, 100)
		if err, again := one.Do(c), two.Do(c); err != again {
			t.Fatalf("Do: %d and %d", err, again)
		}
		if i%17 == 0 {
			synced(t, one)
			synced(t, two)
		}
		if n, b := r.Intn(20), r.Intn(100); !bytes.Equal(crashed(t, one, n, b), crashed(t, two, n, b)) {
			t.Fatal("two disks are not alike")
		}
	}
	wantTree(t, "a third store", three.Tree(), tree.New())
	if !bytes.Equal(crashed(t, three, 9, 9), disk) {
		t.Error("a third store: its disk is changed")
	}
}

// R5: a store that was opened anew goes on as the one that was not, byte by byte.
func TestGoesOn(t *testing.T) {
	r := rand.New(rand.NewSource(25))
	for _, size := range []int{4096, 10000, 100000} {
		l := newLife(t, size)
		for range 400 {
			l.sync(t)
			other := opened(t, crashed(t, l.Store, 0, 0))
			c := randomCall(r, 200)
			if err, again := l.do(t, c), other.Do(c); err != again {
				t.Fatalf("Do: %d, of a store that was opened anew %d", err, again)
			}
			if !slices.Equal(store.Waiting(l.Store), store.Waiting(other)) || !bytes.Equal(crashed(t, l.Store, 9, 9), crashed(t, other, 9, 9)) {
				t.Fatal("a store that was opened anew goes on otherwise")
			}
		}
	}
}
