package blocks_test

import (
	"bytes"
	"math"
	"math/rand"
	"regexp"
	"slices"
	"strconv"
	"strings"
	"testing"
	"unsafe"

	"toolchest/api"
	"toolchest/blocks"
)

const greatest = 1<<31 - 1 // of Skip, of Seek, and of what Size tells

type numbers = [4]int

// one: the text of one byte.
func one(c int) string { return string([]byte{byte(c)}) }

// noughts: so many bytes 0.
func noughts(n int) string { return strings.Repeat("\x00", n) }

// everyByte: from 0 to 255.
func everyByte() string {
	var b strings.Builder
	for c := range 256 {
		b.WriteString(one(c))
	}
	return b.String()
}

// someText: so many bytes, of all kinds, which do not come again in the same order soon.
func someText(n int) string {
	b := make([]byte, n)
	for i := range b {
		b[i] = byte(i*7 + i/256*3 + i/65536*5)
	}
	return string(b)
}

// shortTexts: all texts of at most so many bytes that are made of these ones.
func shortTexts(bytes string, most int) []string {
	out := []string{""}
	for from, n := 0, 0; n < most; n++ {
		to := len(out)
		for _, s := range out[from:to] {
			for i := range len(bytes) {
				out = append(out, s+bytes[i:i+1])
			}
		}
		from = to
	}
	return out
}

// plain: a plan that takes all blocks, of so many bytes each, as they are.
func plain(in, out int) blocks.Plan { return blocks.Plan{In: in, Out: out, Count: -1} }

// with: a plan with something else in it.
func with(p blocks.Plan, change func(p *blocks.Plan)) blocks.Plan {
	change(&p)
	return p
}

func wantRun(t *testing.T, p blocks.Plan, in, out, want string, n numbers) {
	t.Helper()
	if s, got, e := blocks.Run(p, in, out); s != want || got != n || e != api.OK {
		t.Errorf("Run(%+v, %.60q, %.60q), of %d and %d bytes: %.60q, of %d bytes, %v %d, want %.60q, of %d bytes, %v", p, in, out, len(in), len(out), s, len(s), got, e, want, len(want), n)
	}
}

func wantError(t *testing.T, p blocks.Plan, in, out string, want api.Errno) {
	t.Helper()
	if s, n, e := blocks.Run(p, in, out); s != "" || n != (numbers{}) || e != want {
		t.Errorf("Run(%+v, %.60q, %.60q), of %d and %d bytes: %.60q, of %d bytes, %v %d, want %d and nothing else", p, in, out, len(in), len(out), s, len(s), n, e, want)
	}
}

func wantSize(t *testing.T, s string, want int) {
	t.Helper()
	if n, ok := blocks.Size(s); n != want || !ok {
		t.Errorf("Size(%q): %d %v, want %d", s, n, ok, want)
	}
}

func wantNoSize(t *testing.T, texts ...string) {
	t.Helper()
	for _, s := range texts {
		if n, ok := blocks.Size(s); n != 0 || ok {
			t.Errorf("Size(%.60q), of %d bytes: %d %v, want 0 and false", s, len(s), n, ok)
		}
	}
}

// gone: what goes out by a plan, and the numbers.
func gone(t *testing.T, p blocks.Plan, in string) (string, numbers) {
	t.Helper()
	s, n, e := blocks.Run(p, in, "")
	if e != api.OK {
		t.Fatalf("Run(%+v, %.60q, empty): %d", p, in, e)
	}
	return s, n
}

// slowCheck says P11.1 once more.
func slowCheck(p blocks.Plan) bool {
	for _, n := range []int{p.In, p.Out} {
		if n <= 0 || n > 65536 {
			return false
		}
	}
	for _, n := range []int{p.Skip, p.Seek} {
		if n < 0 || n >= 2147483648 {
			return false
		}
	}
	return !p.Upper || !p.Lower
}

// slowBlock: what becomes of a block, each byte taken from where it comes from.
func slowBlock(p blocks.Plan, b []byte) []byte {
	const small, great = "abcdefghijklmnopqrstuvwxyz", "ABCDEFGHIJKLMNOPQRSTUVWXYZ"
	if p.Sync {
		b = slices.Concat(b, make([]byte, p.In-len(b)))
	}
	var out []byte
	for i := range b {
		from := i
		if p.Swab && (i%2 == 1 || i+1 < len(b)) {
			from = i ^ 1
		}
		c := b[from]
		if at := strings.IndexByte(small, c); p.Upper && at >= 0 {
			c = great[at]
		} else if at := strings.IndexByte(great, c); p.Lower && at >= 0 {
			c = small[at]
		}
		out = append(out, c)
	}
	return out
}

// slowRun says P11.2 in another way: all blocks first, then the answer by its places.
func slowRun(p blocks.Plan, in, out string) (string, numbers, api.Errno) {
	if !slowCheck(p) {
		return "", numbers{}, 1
	}
	if len(in) > 1048576 || len(out) > 1048576 {
		return "", numbers{}, 3
	}
	all := slices.Collect(slices.Chunk([]byte(in), p.In))
	all = all[min(p.Skip, len(all)):]
	if p.Count >= 0 && p.Count < len(all) {
		all = all[:p.Count]
	}
	var n numbers
	var went []byte
	for _, b := range all {
		if len(b) < p.In {
			n[1]++
		} else {
			n[0]++
		}
		went = append(went, slowBlock(p, b)...)
	}
	for b := range slices.Chunk(went, p.Out) {
		if len(b) < p.Out {
			n[3]++
		} else {
			n[2]++
		}
	}
	ahead := int64(p.Seek) * int64(p.Out)
	long := ahead + int64(len(went))
	if p.Keep {
		long = max(long, int64(len(out)))
	}
	if long > 1048576 {
		return "", numbers{}, 3
	}
	answer := make([]byte, long)
	copy(answer, out)
	copy(answer[ahead:], went)
	return string(answer), n, 0
}

func sameAsSlow(t *testing.T, p blocks.Plan, in, out string) {
	t.Helper()
	s, n, e := blocks.Run(p, in, out)
	if ws, wn, we := slowRun(p, in, out); s != ws || n != wn || e != we {
		t.Fatalf("Run(%+v, %.60q, %.60q), of %d and %d bytes: %.60q, of %d bytes, %v %d, want %.60q, of %d bytes, %v %d", p, in, out, len(in), len(out), s, len(s), n, e, ws, len(ws), wn, we)
	}
}

// P11.1, P11.2, P11.3: the chapter's examples.
func TestExamples(t *testing.T) {
	wantRun(t, blocks.Plan{In: 2, Out: 2, Count: -1}, "abcde", "", "abcde", numbers{2, 1, 2, 1})
	wantRun(t, blocks.Plan{In: 2, Out: 3, Skip: 1, Count: 1}, "abcde", "xyz", "cd", numbers{1, 0, 0, 1})
	wantRun(t, blocks.Plan{In: 2, Out: 2, Seek: 1, Count: 1, Keep: true}, "abcd", "12345", "12ab5", numbers{1, 0, 1, 0})
	wantRun(t, blocks.Plan{In: 2, Out: 2, Seek: 1, Count: 1}, "abcd", "12345", "12ab", numbers{1, 0, 1, 0})
	wantRun(t, blocks.Plan{In: 2, Out: 4, Seek: 1, Count: 0}, "a", "12", "12\x00\x00", numbers{0, 0, 0, 0})
	wantRun(t, blocks.Plan{In: 4, Out: 4, Count: -1, Swab: true}, "abcde", "", "badce", numbers{1, 1, 1, 1})
	wantRun(t, blocks.Plan{In: 4, Out: 4, Count: -1, Sync: true, Upper: true}, "abcde", "", "ABCDE\x00\x00\x00", numbers{1, 1, 2, 0})
	wantError(t, blocks.Plan{In: 0, Out: 1}, "abcde", "xyz", api.ErrArg)
	wantError(t, blocks.Plan{In: 1, Out: 1, Upper: true, Lower: true}, "abcde", "xyz", api.ErrArg)
	wantSize(t, "12", 12)
	wantSize(t, "2k", 2048)
	wantSize(t, "3b", 1536)
	wantNoSize(t, "k", "2097152k", "", "1kb")
}

// wrongPlans: each may not be by one thing alone.
func wrongPlans() []blocks.Plan {
	good := blocks.Plan{In: 1, Out: 1, Count: -1}
	wrong := []blocks.Plan{with(good, func(p *blocks.Plan) { p.Upper, p.Lower = true, true })}
	for _, n := range []int{0, -1, 65537, 65538, -65536, 1 << 17, greatest, greatest + 1, -greatest, 1 << 32, 1<<32 + 1, math.MaxInt, math.MinInt, math.MinInt + 1} {
		wrong = append(wrong, with(good, func(p *blocks.Plan) { p.In = n }), with(good, func(p *blocks.Plan) { p.Out = n }))
	}
	for _, n := range []int{-1, -2, greatest + 1, greatest + 2, -greatest, -greatest - 1, 1 << 32, 1<<32 + 1, math.MaxInt, math.MinInt, math.MinInt + 1} {
		wrong = append(wrong, with(good, func(p *blocks.Plan) { p.Skip = n }), with(good, func(p *blocks.Plan) { p.Seek = n }))
	}
	return wrong
}

// P11.1: plans that may be, at each edge of each number.
func TestCheckGood(t *testing.T) {
	good := blocks.Plan{In: 1, Out: 1}
	plans := []blocks.Plan{
		good, {In: 65536, Out: 65536, Skip: greatest, Seek: greatest},
		with(good, func(p *blocks.Plan) { p.Upper = true }), with(good, func(p *blocks.Plan) { p.Lower = true }),
		with(good, func(p *blocks.Plan) { p.Keep, p.Swab, p.Sync, p.Upper = true, true, true, true }),
		with(good, func(p *blocks.Plan) { p.Keep, p.Swab, p.Sync, p.Lower = true, true, true, true }),
	}
	for _, n := range []int{1, 2, 512, 65535, 65536} {
		plans = append(plans, with(good, func(p *blocks.Plan) { p.In = n }), with(good, func(p *blocks.Plan) { p.Out = n }))
	}
	for _, n := range []int{0, 1, 65536, 65537, greatest - 1, greatest} {
		plans = append(plans, with(good, func(p *blocks.Plan) { p.Skip = n }), with(good, func(p *blocks.Plan) { p.Seek = n }))
	}
	for _, n := range []int{0, 1, -1, -2, 65537, greatest, greatest + 1, -greatest - 2, math.MaxInt, math.MinInt} { // of Count nothing is asked
		plans = append(plans, with(good, func(p *blocks.Plan) { p.Count = n }))
	}
	for _, p := range plans {
		if !blocks.Check(p) {
			t.Errorf("Check(%+v): false", p)
		}
	}
}

// P11.1, P11.2: plans that may not be; that is said ahead of a limit.
func TestCheckWrong(t *testing.T) {
	long := someText(api.MaxText + 1)
	if blocks.Check(blocks.Plan{}) {
		t.Errorf("Check of the zero plan: true")
	}
	for _, p := range wrongPlans() {
		if blocks.Check(p) {
			t.Errorf("Check(%+v): true", p)
		}
		wantError(t, p, "", "", api.ErrArg)
		wantError(t, p, "abc", "xyz", api.ErrArg)
		wantError(t, p, long, "", api.ErrArg)
		wantError(t, p, "", long, api.ErrArg)
		far := with(p, func(p *blocks.Plan) { p.Keep, p.Swab, p.Sync, p.Count = true, true, true, 0 })
		wantError(t, far, "abc", "xyz", api.ErrArg)
		if p.Seek == 0 {
			wantError(t, with(p, func(p *blocks.Plan) { p.Seek = greatest }), long, long, api.ErrArg)
		}
	}
}

// P11.1: numbers at the edges, all together.
func TestCheckAll(t *testing.T) {
	sizes := []int{math.MinInt, -1, 0, 1, 65536, 65537, math.MaxInt}
	places := []int{math.MinInt, -1, 0, greatest, greatest + 1, math.MaxInt}
	for _, in := range sizes {
		for _, out := range sizes {
			for _, skip := range places {
				for _, seek := range places {
					for bits := range 32 {
						p := blocks.Plan{In: in, Out: out, Skip: skip, Seek: seek, Count: bits - 16, Keep: bits&1 == 1, Swab: bits&2 == 2, Upper: bits&4 == 4, Lower: bits&8 == 8, Sync: bits&16 == 16}
						if got, want := blocks.Check(p), slowCheck(p); got != want {
							t.Fatalf("Check(%+v): %v, want %v", p, got, want)
						}
					}
				}
			}
		}
	}
}

// P11.2: in of no bytes, of whole blocks, and with a last block of one byte.
func TestBlocksIn(t *testing.T) {
	for _, c := range []struct {
		size int
		in   string
		n    numbers
	}{
		{1, "", numbers{}}, {65536, "", numbers{}},
		{1, "a", numbers{1, 0, 1, 0}}, {1, "abc", numbers{3, 0, 3, 0}},
		{2, "a", numbers{0, 1, 0, 1}}, {2, "ab", numbers{1, 0, 1, 0}}, {2, "abc", numbers{1, 1, 1, 1}}, {2, "abcd", numbers{2, 0, 2, 0}},
		{3, "ab", numbers{0, 1, 0, 1}}, {3, "abcdef", numbers{2, 0, 2, 0}}, {3, "abcdefg", numbers{2, 1, 2, 1}}, {3, "abcdefgh", numbers{2, 1, 2, 1}},
		{5, "abcde", numbers{1, 0, 1, 0}}, {6, "abcde", numbers{0, 1, 0, 1}}, {65536, "abc", numbers{0, 1, 0, 1}},
	} {
		wantRun(t, plain(c.size, c.size), c.in, "", c.in, c.n)
		wantRun(t, plain(c.size, c.size), c.in, "out", c.in, c.n)
	}
	for _, more := range []int{0, 1, 2, 65535} {
		in := someText(2*65536 + more)
		wantRun(t, plain(65536, 65536), in, "", in, numbers{2, min(more, 1), 2, min(more, 1)})
	}
}

// P11.2: how many times Out bytes go out, and whether something is left, whatever the blocks that come in are.
func TestBlocksOut(t *testing.T) {
	for _, c := range []struct {
		in, out, long int
		n             numbers
	}{
		{2, 1, 5, numbers{2, 1, 5, 0}}, {2, 3, 5, numbers{2, 1, 1, 1}}, {2, 3, 6, numbers{3, 0, 2, 0}}, {2, 5, 5, numbers{2, 1, 1, 0}}, {2, 6, 5, numbers{2, 1, 0, 1}},
		{4, 2, 6, numbers{1, 1, 3, 0}}, {4, 2, 7, numbers{1, 1, 3, 1}}, {4, 8, 8, numbers{2, 0, 1, 0}}, {4, 8, 9, numbers{2, 1, 1, 1}}, {4, 8, 7, numbers{1, 1, 0, 1}},
		{1, 65536, 65535, numbers{65535, 0, 0, 1}}, {1, 65536, 65536, numbers{65536, 0, 1, 0}}, {1, 65536, 65537, numbers{65537, 0, 1, 1}}, {65536, 1, 65537, numbers{1, 1, 65537, 0}},
		{7, 65536, 0, numbers{}}, {65536, 1, 0, numbers{}},
	} {
		in := someText(c.long)
		wantRun(t, plain(c.in, c.out), in, "xyz", in, c.n)
	}
	// What stands ahead, and what Keep leaves, did not go out.
	wantRun(t, blocks.Plan{In: 2, Out: 3, Seek: 2, Count: -1, Keep: true}, "abcd", "123456789012345", "123456abcd12345", numbers{2, 0, 1, 1})
	// Bytes that Sync sets behind go out, and the block is still one with fewer bytes.
	wantRun(t, blocks.Plan{In: 4, Out: 3, Count: -1, Sync: true}, "abcde", "", "abcde\x00\x00\x00", numbers{1, 1, 2, 1})
	wantRun(t, blocks.Plan{In: 6, Out: 3, Count: -1, Sync: true}, "a", "", "a\x00\x00\x00\x00\x00", numbers{0, 1, 2, 0})
}

// P11.2: Skip of fewer blocks than there are, of as many, of more, of the greatest.
func TestSkip(t *testing.T) {
	for _, c := range []struct {
		skip int
		want string
		n    numbers
	}{
		{0, "abcde", numbers{2, 1, 2, 1}}, {1, "cde", numbers{1, 1, 1, 1}}, {2, "e", numbers{0, 1, 0, 1}},
		{3, "", numbers{}}, {4, "", numbers{}}, {5, "", numbers{}}, {1 << 30, "", numbers{}}, {greatest - 1, "", numbers{}}, {greatest, "", numbers{}},
	} {
		for _, count := range []int{-1, math.MinInt, 3, math.MaxInt} {
			wantRun(t, blocks.Plan{In: 2, Out: 2, Skip: c.skip, Count: count}, "abcde", "xyz", c.want, c.n)
			wantRun(t, blocks.Plan{In: 2, Out: 2, Skip: c.skip, Count: count}, "abcd"+"e", "", c.want, c.n)
		}
	}
	wantRun(t, blocks.Plan{In: 2, Out: 2, Skip: 2, Count: -1}, "abcd", "", "", numbers{})
	wantRun(t, blocks.Plan{In: 2, Out: 2, Skip: 1, Count: -1}, "abcd", "", "cd", numbers{1, 0, 1, 0})
	in := someText(api.MaxText)
	for _, size := range []int{1, 2, 3, 65535, 65536} {
		wantRun(t, blocks.Plan{In: size, Out: 1, Skip: greatest, Count: -1, Sync: true}, in, "", "", numbers{})
	}
	for _, skip := range []int{15, 16, 17, 1 << 16, 1 << 29, 1<<29 + 15, 1 << 30, greatest} { // times 65536 some of these would be 0 again in 32 bits, or below it
		want := in[min(skip*65536, len(in)):]
		wantRun(t, blocks.Plan{In: 65536, Out: 65536, Skip: skip, Count: -1}, in, "", want, numbers{len(want) / 65536, 0, len(want) / 65536, 0})
	}
	// A last block with fewer bytes is a block: Skip passes over it as one.
	wantRun(t, blocks.Plan{In: 4, Out: 1, Skip: 1, Count: -1, Sync: true}, "abc", "", "", numbers{})
}

// P11.2: Count 0, of fewer blocks than there are, of as many, of more, below 0.
func TestCount(t *testing.T) {
	for _, c := range []struct {
		count int
		want  string
		n     numbers
	}{
		{0, "", numbers{}}, {1, "ab", numbers{1, 0, 1, 0}}, {2, "abcd", numbers{2, 0, 2, 0}}, {3, "abcde", numbers{2, 1, 2, 1}}, {4, "abcde", numbers{2, 1, 2, 1}},
		{greatest, "abcde", numbers{2, 1, 2, 1}}, {1 << 32, "abcde", numbers{2, 1, 2, 1}}, {1<<63 - 1, "abcde", numbers{2, 1, 2, 1}},
		{-1, "abcde", numbers{2, 1, 2, 1}}, {-2, "abcde", numbers{2, 1, 2, 1}}, {-3, "abcde", numbers{2, 1, 2, 1}}, {-1 << 32, "abcde", numbers{2, 1, 2, 1}}, {math.MinInt, "abcde", numbers{2, 1, 2, 1}},
	} {
		wantRun(t, blocks.Plan{In: 2, Out: 2, Count: c.count}, "abcde", "", c.want, c.n)
		wantRun(t, blocks.Plan{In: 2, Out: 2, Count: c.count, Skip: 2}, "wxyzabcde", "12345678", c.want, c.n)
	}
	wantRun(t, blocks.Plan{In: 2, Out: 2, Skip: 1, Count: 1}, "abcdef", "", "cd", numbers{1, 0, 1, 0})
	wantRun(t, blocks.Plan{In: 2, Out: 2, Skip: 2, Count: 1}, "abcde", "", "e", numbers{0, 1, 0, 1})
	wantRun(t, blocks.Plan{In: 2, Out: 2, Skip: 3, Count: 1}, "abcde", "", "", numbers{})
	wantRun(t, blocks.Plan{In: 2, Out: 2, Skip: 1, Count: 0}, "abcde", "", "", numbers{})
	// A count of bytes that does not part the text evenly: of blocks, not of bytes that go out.
	wantRun(t, blocks.Plan{In: 3, Out: 1, Count: 2}, "abcdefgh", "", "abcdef", numbers{2, 0, 6, 0})
	wantRun(t, blocks.Plan{In: 1, Out: 3, Count: 2}, "abcdefgh", "", "ab", numbers{2, 0, 0, 1})
}

// P11.2: Sync, for a last block that is whole and one that is not.
func TestSync(t *testing.T) {
	sync := func(n int) blocks.Plan { return blocks.Plan{In: n, Out: 1, Count: -1, Sync: true} }
	wantRun(t, sync(4), "", "xyz", "", numbers{})
	wantRun(t, sync(1), "abc", "", "abc", numbers{3, 0, 3, 0})
	wantRun(t, sync(4), "abcd", "", "abcd", numbers{1, 0, 4, 0})
	wantRun(t, sync(4), "abcdefgh", "", "abcdefgh", numbers{2, 0, 8, 0})
	wantRun(t, sync(4), "abcde", "", "abcde\x00\x00\x00", numbers{1, 1, 8, 0})
	wantRun(t, sync(4), "abcdefg", "", "abcdefg\x00", numbers{1, 1, 8, 0})
	wantRun(t, sync(4), "\x00", "", "\x00\x00\x00\x00", numbers{0, 1, 4, 0})
	wantRun(t, sync(65536), "a", "", "a"+noughts(65535), numbers{0, 1, 65536, 0})
	// A short block that is not taken has none behind it.
	wantRun(t, with(sync(4), func(p *blocks.Plan) { p.Count = 1 }), "abcde", "", "abcd", numbers{1, 0, 4, 0})
	wantRun(t, with(sync(4), func(p *blocks.Plan) { p.Skip = 1 }), "abcde", "", "e\x00\x00\x00", numbers{0, 1, 4, 0})
	wantRun(t, with(sync(4), func(p *blocks.Plan) { p.Skip = 2 }), "abcde", "", "", numbers{})
	wantRun(t, with(sync(4), func(p *blocks.Plan) { p.Seek, p.Keep = 2, true }), "abcde", "1234567890AB", "12abcde\x00\x00\x00AB", numbers{1, 1, 8, 0})
}

// P11.2: Swab, for blocks of even and of odd length, and for one byte; with Sync the bytes behind change places too.
func TestSwab(t *testing.T) {
	for _, c := range []struct {
		size           int
		in, want, sync string
	}{
		{1, "abc", "abc", "abc"},
		{2, "", "", ""}, {2, "a", "a", "\x00a"}, {2, "ab", "ba", "ba"}, {2, "abc", "bac", "ba\x00c"}, {2, "abcd", "badc", "badc"},
		{3, "a", "a", "\x00a\x00"}, {3, "ab", "ba", "ba\x00"}, {3, "abc", "bac", "bac"}, {3, "abcd", "bacd", "bac\x00d\x00"}, {3, "abcde", "baced", "baced\x00"}, {3, "abcdef", "bacedf", "bacedf"},
		{4, "abc", "bac", "ba\x00c"}, {4, "abcd", "badc", "badc"}, {4, "abcdefg", "badcfeg", "badcfe\x00g"}, {5, "abcdefgh", "badcegfh", "badcegf\x00h\x00"},
		{65536, "abcde", "badce", "badc\x00e" + noughts(65530)},
	} {
		whole, part := len(c.in)/c.size, min(len(c.in)%c.size, 1)
		p := blocks.Plan{In: c.size, Out: 1, Count: -1, Swab: true}
		wantRun(t, p, c.in, "", c.want, numbers{whole, part, len(c.want), 0})
		p.Sync = true
		wantRun(t, p, c.in, "", c.sync, numbers{whole, part, len(c.sync), 0})
	}
	wantRun(t, blocks.Plan{In: 3, Out: 9, Count: -1, Swab: true, Sync: true, Lower: true}, "ABCD", "", "bac\x00d\x00", numbers{1, 1, 0, 1})
	wantRun(t, blocks.Plan{In: 4, Out: 4, Skip: 1, Count: 1, Seek: 1, Keep: true, Swab: true, Upper: true}, "abcdefghi", "123456789", "1234FEHG9", numbers{1, 0, 1, 0})
	// Just what goes out changes places, and nothing of out.
	wantRun(t, blocks.Plan{In: 2, Out: 2, Seek: 1, Count: 1, Keep: true, Swab: true}, "ab", "123456", "12ba56", numbers{1, 0, 1, 0})
}

// P11.2: letters at their edges, and all other bytes; of out nothing is changed.
func TestLetters(t *testing.T) {
	upper, lower := blocks.Plan{In: 1, Out: 1, Count: -1, Upper: true}, blocks.Plan{In: 1, Out: 1, Count: -1, Lower: true}
	wantRun(t, upper, "`az{@AZ[", "", "`AZ{@AZ[", numbers{8, 0, 8, 0})
	wantRun(t, lower, "`az{@AZ[", "", "`az{@az[", numbers{8, 0, 8, 0})
	wantRun(t, upper, "Straße\xe4\xc4\xff 0y9", "", "STRAßE\xe4\xc4\xff 0Y9", numbers{14, 0, 14, 0})
	wantRun(t, lower, "ÄSTRAßE\xe4\xc4\xff 0Y9", "", "Ästraße\xe4\xc4\xff 0y9", numbers{16, 0, 16, 0})
	wantRun(t, with(upper, func(p *blocks.Plan) { p.Seek, p.Keep = 2, true }), "xy", "abcdef", "abXYef", numbers{2, 0, 2, 0})
	wantRun(t, with(lower, func(p *blocks.Plan) { p.Seek, p.Keep = 2, true }), "XY", "ABCDEF", "ABxyEF", numbers{2, 0, 2, 0})
	for c := range 256 {
		great, small := c, c
		if c >= 97 && c <= 122 {
			great = c - 32
		}
		if c >= 65 && c <= 90 {
			small = c + 32
		}
		wantRun(t, upper, one(c), "", one(great), numbers{1, 0, 1, 0})
		wantRun(t, lower, one(c), "", one(small), numbers{1, 0, 1, 0})
		wantRun(t, plain(1, 1), one(c), "", one(c), numbers{1, 0, 1, 0})
		for _, size := range []int{2, 3} {
			n := numbers{0, 1, 0, 1}
			if size == 2 {
				n = numbers{1, 0, 1, 0}
			}
			wantRun(t, with(upper, func(p *blocks.Plan) { p.In, p.Out = size, size }), "k"+one(c), "", "K"+one(great), n)
			wantRun(t, with(lower, func(p *blocks.Plan) { p.In, p.Out = size, size }), one(c)+"K", "", one(small)+"k", n)
		}
	}
	all := everyByte()
	wantRun(t, plain(256, 256), all, "", all, numbers{1, 0, 1, 0})
}

// P11.2: out shorter, as long and longer than Seek times Out.
func TestSeek(t *testing.T) {
	for _, c := range []struct{ out, want, keep string }{
		{"", noughts(6) + "ab", noughts(6) + "ab"},
		{"1", "1" + noughts(5) + "ab", "1" + noughts(5) + "ab"},
		{"12345", "12345\x00ab", "12345\x00ab"},
		{"123456", "123456ab", "123456ab"},
		{"1234567", "123456ab", "123456ab"},
		{"12345678", "123456ab", "123456ab"},
		{"123456789", "123456ab", "123456ab9"},
		{"1234567890AB", "123456ab", "123456ab90AB"},
	} {
		p := blocks.Plan{In: 2, Out: 3, Seek: 2, Count: -1}
		wantRun(t, p, "ab", c.out, c.want, numbers{1, 0, 0, 1})
		p.Keep = true
		wantRun(t, p, "ab", c.out, c.keep, numbers{1, 0, 0, 1})
	}
	// Where nothing goes out, out is cut off behind Seek times Out, or made so long.
	for _, c := range []struct{ out, want, keep string }{
		{"", "\x00\x00\x00", "\x00\x00\x00"}, {"12", "12\x00", "12\x00"}, {"123", "123", "123"}, {"1234", "123", "1234"}, {"123456", "123", "123456"},
	} {
		p := blocks.Plan{In: 2, Out: 3, Seek: 1}
		for _, in := range []string{"", "abc"} {
			p.Keep = false
			wantRun(t, p, in, c.out, c.want, numbers{})
			p.Keep = true
			wantRun(t, p, in, c.out, c.keep, numbers{})
		}
	}
	// Seek counts blocks of Out bytes, not of In.
	wantRun(t, blocks.Plan{In: 1, Out: 4, Seek: 1, Count: 1}, "xy", "12345678", "1234x", numbers{1, 0, 0, 1})
	wantRun(t, blocks.Plan{In: 4, Out: 1, Seek: 1, Count: 1}, "wxyz", "12345678", "1wxyz", numbers{1, 0, 4, 0})
}

// P11.2: Keep, where out is shorter, as long and longer than what would be answered without it.
func TestKeep(t *testing.T) {
	for _, c := range []struct{ in, out, cut, keep string }{
		{"", "", "", ""}, {"", "1", "", "1"}, {"", "123", "", "123"}, {"abc", "", "abc", "abc"},
		{"abc", "1", "abc", "abc"}, {"abc", "12", "abc", "abc"}, {"abc", "123", "abc", "abc"}, {"abc", "1234", "abc", "abc4"}, {"abc", "123456", "abc", "abc456"},
		{"abc", "12\x00\x00\x00", "abc", "abc\x00\x00"},
	} {
		for _, size := range []int{1, 2, 3, 65536} {
			p := plain(size, 7)
			n := numbers{len(c.in) / size, min(len(c.in)%size, 1), 0, min(len(c.in), 1)}
			wantRun(t, p, c.in, c.out, c.cut, n)
			p.Keep = true
			wantRun(t, p, c.in, c.out, c.keep, n)
		}
	}
	// What Sync sets behind covers what stands in out.
	wantRun(t, blocks.Plan{In: 4, Out: 4, Count: -1, Sync: true, Keep: true}, "a", "123456", "a\x00\x00\x0056", numbers{0, 1, 1, 0})
}

// P11.2: in and out of MaxText bytes, and of one more.
func TestLimitGiven(t *testing.T) {
	long := someText(api.MaxText)
	above := long + "x"
	wantRun(t, plain(65536, 65536), long, "", long, numbers{16, 0, 16, 0})
	wantRun(t, plain(65536, 65536), long, long, long, numbers{16, 0, 16, 0})
	wantRun(t, plain(1, 1), long, "", long, numbers{api.MaxText, 0, api.MaxText, 0})
	wantRun(t, plain(2, 3), "abc", long, "abc", numbers{1, 1, 1, 0})
	for _, p := range []blocks.Plan{plain(65536, 65536), plain(1, 1), {In: 1, Out: 1}, {In: 1, Out: 1, Skip: greatest, Count: -1}, {In: 1, Out: 1, Count: 1, Keep: true}, {In: 65536, Out: 1, Count: 1, Sync: true, Swab: true, Upper: true}} {
		wantError(t, p, above, "", api.ErrLimit)
		wantError(t, p, "", above, api.ErrLimit)
		wantError(t, p, above, above, api.ErrLimit)
		wantError(t, p, above, long, api.ErrLimit)
		wantError(t, p, long, above, api.ErrLimit)
		wantError(t, p, long+long, "", api.ErrLimit)
		wantError(t, p, "abc", long+long, api.ErrLimit)
	}
}

// P11.2: an answer that would have MaxText bytes, and one more, by what goes out, by Sync, by Seek times Out, by what Keep leaves.
func TestLimitAnswer(t *testing.T) {
	long := someText(api.MaxText)
	less := long[:api.MaxText-1]

	wantRun(t, blocks.Plan{In: 1, Out: 1, Seek: 1, Count: -1}, less, "12", "1"+less, numbers{api.MaxText - 1, 0, api.MaxText - 1, 0})
	wantError(t, blocks.Plan{In: 1, Out: 1, Seek: 1, Count: -1}, long, "12", api.ErrLimit)
	wantRun(t, blocks.Plan{In: 1, Out: 1, Seek: 1, Count: api.MaxText - 1}, long, "12", "1"+less, numbers{api.MaxText - 1, 0, api.MaxText - 1, 0})
	wantRun(t, blocks.Plan{In: 1, Out: 1, Seek: 1, Skip: 1, Count: -1}, long, "12", "1"+long[1:], numbers{api.MaxText - 1, 0, api.MaxText - 1, 0})

	// MaxText is 32 times 32768, and 349525 times 3 and 1.
	wantRun(t, blocks.Plan{In: 32768, Out: 1, Count: -1, Sync: true}, less, "", less+"\x00", numbers{31, 1, api.MaxText, 0})
	wantRun(t, blocks.Plan{In: 3, Out: 1, Count: -1, Sync: true}, long[:api.MaxText-2], "", long[:api.MaxText-2]+"\x00", numbers{349524, 1, api.MaxText - 1, 0})
	wantError(t, blocks.Plan{In: 3, Out: 1, Count: -1, Sync: true}, long, "", api.ErrLimit)
	wantRun(t, blocks.Plan{In: 3, Out: 1, Count: -1}, long, "", long, numbers{349525, 1, api.MaxText, 0})
	wantRun(t, blocks.Plan{In: 3, Out: 1, Count: 349525, Sync: true}, long, "", less, numbers{349525, 0, api.MaxText - 1, 0})
	wantRun(t, blocks.Plan{In: 17, Out: 1, Seek: 0, Count: -1, Sync: true}, long[:61680*17], "", long[:61680*17], numbers{61680, 0, 61680 * 17, 0})
	wantError(t, blocks.Plan{In: 17, Out: 1, Seek: 0, Count: -1, Sync: true}, long[:61680*17+1], "", api.ErrLimit) // 61681 times 17 is MaxText and 1
	wantError(t, blocks.Plan{In: 65535, Out: 65536, Count: -1, Sync: true}, long, "", api.ErrLimit)

	wantRun(t, blocks.Plan{In: 1, Out: 65536, Seek: 16}, "a", "", noughts(api.MaxText), numbers{})
	wantRun(t, blocks.Plan{In: 1, Out: 65536, Seek: 16}, "a", long, long, numbers{})
	wantRun(t, blocks.Plan{In: 1, Out: 1, Seek: api.MaxText}, "a", "12", "12"+noughts(api.MaxText-2), numbers{})
	wantRun(t, blocks.Plan{In: 1, Out: 1024, Seek: 1024, Skip: 1, Count: -1, Keep: true}, "a", less, less+"\x00", numbers{})
	wantError(t, blocks.Plan{In: 1, Out: 1, Seek: api.MaxText + 1}, "a", "", api.ErrLimit)
	wantError(t, blocks.Plan{In: 1, Out: 65536, Seek: 16, Count: 1}, "a", "", api.ErrLimit)
	wantError(t, blocks.Plan{In: 1, Out: 65536, Seek: 16, Count: -1}, "a", long, api.ErrLimit)
	wantError(t, blocks.Plan{In: 1, Out: 1024, Seek: 1024, Count: -1, Keep: true}, "a", "", api.ErrLimit)
	wantError(t, blocks.Plan{In: 1, Out: 17, Seek: 61681}, "", "", api.ErrLimit)
	wantRun(t, blocks.Plan{In: 1, Out: 17, Seek: 61680, Count: -1}, "abcdefghijklmnop", "", noughts(61680*17)+"abcdefghijklmnop", numbers{16, 0, 0, 1})
	wantError(t, blocks.Plan{In: 1, Out: 17, Seek: 61680, Count: -1}, "abcdefghijklmnopq", "", api.ErrLimit)

	wantRun(t, blocks.Plan{In: 1, Out: 1, Count: -1, Keep: true}, "abc", long, "abc"+long[3:], numbers{3, 0, 3, 0})
	wantRun(t, blocks.Plan{In: 1, Out: 1, Seek: 5, Count: -1, Keep: true}, "abc", long, long[:5]+"abc"+long[8:], numbers{3, 0, 3, 0})
	wantRun(t, blocks.Plan{In: 1, Out: 1, Seek: api.MaxText - 1, Count: -1, Keep: true}, "a", long, less+"a", numbers{1, 0, 1, 0})
	wantRun(t, blocks.Plan{In: 1, Out: 1, Keep: true}, "", long, long, numbers{})
	wantError(t, blocks.Plan{In: 1, Out: 1, Seek: api.MaxText - 1, Count: -1, Keep: true}, "ab", long, api.ErrLimit)
	wantError(t, blocks.Plan{In: 1, Out: 1, Count: -1, Keep: true}, "abc", long+"x", api.ErrLimit)
}

// P11.2: answers that would be far longer than MaxText: they take no room, and no number wraps round.
func TestLimitFar(t *testing.T) {
	for _, out := range []int{2, 3, 512, 4096, 65535, 65536} {
		for _, seek := range []int{api.MaxText, 1 << 28, 1 << 29, 1 << 30, 1<<30 + 1, greatest - 1, greatest} {
			p := blocks.Plan{In: 1, Out: out, Seek: seek, Count: -1}
			wantError(t, p, "", "", api.ErrLimit)
			wantError(t, p, "abc", "xyz", api.ErrLimit)
			p.Keep = true
			wantError(t, p, "abc", "xyz", api.ErrLimit)
		}
	}
	long := someText(api.MaxText)
	wantError(t, blocks.Plan{In: 65536, Out: 65536, Skip: greatest, Seek: greatest, Count: math.MaxInt, Keep: true, Swab: true, Sync: true, Upper: true}, long, long, api.ErrLimit)
	wantError(t, blocks.Plan{In: 1, Out: 1, Seek: greatest}, "", "", api.ErrLimit)
}

// P11.2: short texts, by plans of all kinds with small numbers.
func TestRunShort(t *testing.T) {
	ins := []string{"", "a", "aZ", "a\x00Z", "abCD", "zAbC\xe4", "zAbC\x80q", "AbCdEfG"}
	outs := []string{"", "1", "1q", "1qX", "1qX4", "1qX45", "1qX45678"}
	for in := range 5 {
		for out := range 4 {
			for place := range 5 * 4 * 4 {
				skip, count, seek := place%4, place/4%5-1, place/20
				for bits := range 32 {
					p := blocks.Plan{In: in + 1, Out: out + 1, Skip: skip, Count: count, Seek: seek, Keep: bits&1 == 1, Swab: bits&2 == 2, Upper: bits&4 == 4, Lower: bits&8 == 8, Sync: bits&16 == 16}
					for i, text := range ins {
						sameAsSlow(t, p, text, outs[(i+place)%len(outs)])
						sameAsSlow(t, p, text, outs[(i+place+3)%len(outs)])
					}
				}
			}
		}
	}
}

// P11.2: long texts, with blocks of many sizes.
func TestRunLong(t *testing.T) {
	r := rand.New(rand.NewSource(11))
	sizes := []int{1, 2, 3, 7, 16, 511, 512, 513, 4096, 65535, 65536}
	long := someText(api.MaxText)
	for range 150 {
		p := blocks.Plan{In: sizes[r.Intn(len(sizes))], Out: sizes[r.Intn(len(sizes))], Skip: r.Intn(6), Count: r.Intn(20) - 4, Seek: r.Intn(18), Keep: r.Intn(2) == 0, Swab: r.Intn(2) == 0, Sync: r.Intn(2) == 0}
		p.Upper = r.Intn(3) == 0
		p.Lower = !p.Upper && r.Intn(2) == 0
		sameAsSlow(t, p, long[r.Intn(len(long)):], long[r.Intn(len(long)):])
		sameAsSlow(t, p, long[:r.Intn(5000)], long[:r.Intn(100000)])
	}
}

// P11.3: digits alone; noughts ahead count as digits.
func TestSizeDigits(t *testing.T) {
	for s, want := range map[string]int{
		"0": 0, "1": 1, "9": 9, "10": 10, "00": 0, "007": 7, "0000000000": 0, "0000000001": 1, "0000000012": 12, "1000000000": 1000000000,
		"1234567890": 1234567890, "2147483646": greatest - 1, "2147483647": greatest, "0147483648": 147483648, "999999999": 999999999,
	} {
		wantSize(t, s, want)
	}
	wantNoSize(t, "2147483648", "2147483649", "2147483650", "2200000000", "3000000000", "4294967295", "4294967296", "4294967297", "9999999999",
		"00000000000", "00000000001", "02147483647", "12345678901", "10000000000", "18446744073709551616", "18446744073709551617", "000000000000000001", "0000000000000000001", strings.Repeat("0", 100), strings.Repeat("1", 5000), strings.Repeat("0", 1<<20))
}

// P11.3: k and b behind the digits.
func TestSizeTimes(t *testing.T) {
	for s, want := range map[string]int{
		"0k": 0, "0b": 0, "1k": 1024, "1b": 512, "64k": 65536, "128b": 65536, "07k": 7168, "07b": 3584, "0000000001k": 1024, "0000000001b": 512, "0000000000k": 0, "0000000000b": 0,
		"2097151k": 2097151 * 1024, "4194303b": 4194303 * 512, "2097152b": 2097152 * 512, "0002097151k": 2097151 * 1024, "0004194303b": 4194303 * 512,
	} {
		wantSize(t, s, want)
	}
	wantNoSize(t, "2097152k", "2097153k", "4194304b", "4194305b", "4194304k", "2147483647k", "2147483647b", "9999999999k", "9999999999b", "4294967296k", "4294967296b", "4194305k", "8388609b",
		"00000000000k", "00000000000b", "00000000001k", "00000000001b", "12345678901b")
}

// P11.3: what is none.
func TestSizeNone(t *testing.T) {
	wantNoSize(t, "", "k", "b", "K", "B", "1K", "1B", "kb", "bk", "kk", "bb", "1kb", "1bk", "1kk", "1bb", "k1", "b1", "1k1", "1b1", "1k ", "1b\n", "1 k", "1\tb",
		"-", "+", "-1", "+1", "-0", "+0", "-1k", "+1b", "+1k", "-1b", "-k", "+b", "--1", "+-1", "1-", "1+", "1+1", " 1", "\t1", "1 ", "1\t", "1\n", "\n1", " ", " 1k",
		"1.0", "1,000", "1_000", "0x10", "0b1", "0o7", "1e3", "1m", "1M", "1w", "1c", "1g", "1x1", "2x3", "a", "1a", "a1", "\x00", "1\x00", "\x001", "1k\x00", "1\x00k", "\xff", "1\xff", "1\x80k", "\xb1", "\xb2k", "１", "1ｋ", "٣", "1\u212a")
	for c := range 256 {
		s := one(c)
		digit := c >= '0' && c <= '9'
		for text, may := range map[string]bool{"%": digit, "%1": digit, "1%2": digit, "12%": digit || c == 'k' || c == 'b', "1%k": digit, "1%b": digit, "%k": digit, "%b": digit, "%1k": digit, "1k%": false, "1b%": false, "123456789%": digit || c == 'k' || c == 'b', "12345678%0": digit, "2147483647%": false, "%2147483647": false} {
			asked := strings.ReplaceAll(text, "%", s)
			if text == "123456789%" && (c == 'k' || c == 'b') {
				may = false // 123456789 times 512 is too great
			}
			if _, ok := blocks.Size(asked); ok != may {
				t.Errorf("Size(%q): %v, want %v", asked, ok, may)
			}
		}
	}
}

var sizeForm = regexp.MustCompile(`\A([0-9]{1,10})([kb]?)\z`)

// slowSize says P11.3 by a regular expression.
func slowSize(s string) (int, bool) {
	m := sizeForm.FindStringSubmatch(s)
	if m == nil {
		return 0, false
	}
	n, _ := strconv.ParseInt(m[1], 10, 64)
	n *= map[string]int64{"": 1, "k": 1024, "b": 512}[m[2]]
	if n > 2147483647 {
		return 0, false
	}
	return int(n), true
}

func sameSize(t *testing.T, s string) {
	t.Helper()
	n, ok := blocks.Size(s)
	if wn, wok := slowSize(s); n != wn || ok != wok {
		t.Fatalf("Size(%q): %d %v, want %d %v", s, n, ok, wn, wok)
	}
}

// P11.3: all short texts, and numbers around the edges with what may stand behind them and what may not.
func TestSizeAll(t *testing.T) {
	for _, s := range shortTexts("019kbK-+ \x80", 5) {
		sameSize(t, s)
	}
	for _, middle := range []int{0, 1 << 16, 1 << 21, 1 << 22, 1 << 31, 1 << 32, 9999999999} {
		for n := max(middle-2000, 0); n < middle+2000; n++ {
			digits := strconv.Itoa(n)
			for _, behind := range []string{"", "k", "b", "kb", "K", "0", " "} {
				sameSize(t, digits+behind)
				sameSize(t, "0"+digits+behind)
				sameSize(t, "000"+digits+behind)
			}
		}
	}
}

// P11.4: without changes what goes out is a part of what came in: the blocks that were taken.
func TestPartOfIn(t *testing.T) {
	for _, in := range []string{"", "a", "abcdefg", "abcdefgh", everyByte(), someText(5000)} {
		for _, size := range []int{1, 2, 3, 4, 7, 8, 9, 255, 256, 257, 4999, 65536} {
			for _, skip := range []int{0, 1, 2, 5, 300, greatest} {
				for _, count := range []int{-1, 0, 1, 2, 5, 300, math.MaxInt} {
					from := min(skip*size, len(in))
					to := len(in)
					if count >= 0 && count < len(in) {
						to = min(from+count*size, len(in))
					}
					got, n := gone(t, blocks.Plan{In: size, Out: 5, Skip: skip, Count: count}, in)
					if got != in[from:to] || n[0] != (to-from)/size || n[1] != min((to-from)%size, 1) {
						t.Errorf("Run(In %d Skip %d Count %d) of %d bytes: %.60q %v, want %.60q", size, skip, count, len(in), got, n, in[from:to])
					}
				}
			}
		}
	}
}

// P11.4: the first blocks, and those that are behind them, are all; so they are where blocks are changed.
func TestFirstAndRest(t *testing.T) {
	for _, in := range []string{"", "a", "abcdefg", "ABCDEFGH", everyByte(), someText(5000)} {
		for _, size := range []int{1, 2, 3, 4, 7, 8, 9, 255, 256, 257, 4999, 65536} {
			for bits := range 16 {
				p := blocks.Plan{In: size, Out: 3, Count: -1, Swab: bits&1 == 1, Sync: bits&2 == 2, Upper: bits&4 == 4, Lower: bits&12 == 8}
				all, n := gone(t, p, in)
				for _, first := range []int{0, 1, 2, 3, 8, 20, 5000, greatest} {
					a, an := gone(t, with(p, func(p *blocks.Plan) { p.Count = first }), in)
					b, bn := gone(t, with(p, func(p *blocks.Plan) { p.Skip = first }), in)
					if a+b != all || an[0]+bn[0] != n[0] || an[1]+bn[1] != n[1] {
						t.Errorf("Run(%+v) of %d bytes, the first %d: %.60q and %.60q, want %.60q", p, len(in), first, a, b, all)
					}
				}
			}
		}
	}
}

// P11.4: what is swabbed twice, in blocks of as many bytes, is as it was.
func TestSwabTwice(t *testing.T) {
	for _, in := range []string{"", "a", "ab", "abc", "abcdefg", "abcdefgh", everyByte(), someText(70001), someText(api.MaxText)} {
		for _, size := range []int{1, 2, 3, 4, 5, 7, 8, 9, 255, 256, 257, 65535, 65536} {
			p := blocks.Plan{In: size, Out: 512, Count: -1, Swab: true}
			once, _ := gone(t, p, in)
			twice, _ := gone(t, p, once)
			if twice != in {
				t.Errorf("swabbed twice in blocks of %d: %.60q, want %.60q", size, twice, in)
			}
			if len(in) > 1 && size > 1 && once == in {
				t.Errorf("swabbed once in blocks of %d: %.60q, as it was", size, once)
			}
		}
	}
}

// R4: what is handed in is not changed, and an answer shares no memory with it. (The texts are made of bytes that can be looked at behind the call.)
func TestMemory(t *testing.T) {
	inBytes, outBytes := []byte("abCDefGHi"), []byte("1234567890abcdef")
	in, out := unsafe.String(&inBytes[0], len(inBytes)), unsafe.String(&outBytes[0], len(outBytes))
	plans := []blocks.Plan{plain(2, 2), plain(9, 9), plain(65536, 65536), {In: 1, Out: 16, Seek: 1}, {In: 1, Out: 1, Keep: true}, {In: 1, Out: 4, Seek: 4, Keep: true}, {In: 4, Out: 2, Skip: 1, Count: 1, Seek: 1, Keep: true}}
	for _, p := range slices.Clone(plans) {
		plans = append(plans, with(p, func(p *blocks.Plan) { p.Swab, p.Upper = true, true }), with(p, func(p *blocks.Plan) { p.Sync, p.Lower = true, true }))
	}
	for _, p := range plans {
		got, _, e := blocks.Run(p, in, out)
		if e != api.OK || string(inBytes) != "abCDefGHi" || string(outBytes) != "1234567890abcdef" {
			t.Fatalf("Run(%+v): %d, and left %q and %q", p, e, inBytes, outBytes)
		}
		want := strings.Clone(got)
		for _, b := range [][]byte{inBytes, outBytes} {
			kept := bytes.Clone(b)
			for i := range b {
				b[i] = '#'
			}
			if got != want {
				t.Fatalf("Run(%+v): the answer shares memory with what was handed in: %q, was %q", p, got, want)
			}
			copy(b, kept)
		}
	}
}

// R5: what is asked twice is answered alike, whatever was asked between.
func TestAgain(t *testing.T) {
	for range 3 {
		wantRun(t, blocks.Plan{In: 4, Out: 4, Count: -1, Sync: true, Upper: true}, "abcde", "", "ABCDE\x00\x00\x00", numbers{1, 1, 2, 0})
		wantRun(t, plain(8, 4), "abcde", "", "abcde", numbers{0, 1, 1, 1})
		wantError(t, blocks.Plan{}, "abcde", "", api.ErrArg)
		wantRun(t, blocks.Plan{In: 2, Out: 2, Seek: 1, Count: 1, Keep: true}, "abcd", "12345", "12ab5", numbers{1, 0, 1, 0})
		wantError(t, blocks.Plan{In: 1, Out: 2, Seek: greatest}, "abcde", "", api.ErrLimit)
		wantSize(t, "2k", 2048)
		wantNoSize(t, "2kb")
	}
}

// R1: any numbers, any bytes: every call ends, none panics, and what it answers is what the slow way says.
func TestAny(t *testing.T) {
	r := rand.New(rand.NewSource(1111))
	sizes := []int{math.MinInt, -1, 0, 1, 1, 2, 2, 3, 4, 5, 8, 13, 65536, 65537, math.MaxInt}
	places := []int{math.MinInt, -1, 0, 0, 0, 0, 1, 1, 2, 3, 5, 1000, greatest, greatest + 1, math.MaxInt}
	text := func() string {
		b := make([]byte, r.Intn(40))
		r.Read(b)
		return string(b)
	}
	for range 60000 {
		bits := r.Intn(32)
		p := blocks.Plan{In: sizes[r.Intn(len(sizes))], Out: sizes[r.Intn(len(sizes))], Skip: places[r.Intn(len(places))], Count: places[r.Intn(len(places))], Seek: places[r.Intn(len(places))],
			Keep: bits&1 == 1, Swab: bits&2 == 2, Upper: bits&4 == 4, Lower: bits&8 == 8, Sync: bits&16 == 16}
		sameAsSlow(t, p, text(), text())
		sameSize(t, text())
	}
}
