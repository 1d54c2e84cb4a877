package codec_test

import (
	"bytes"
	"encoding/binary"
	"encoding/hex"
	"strconv"
	"strings"
	"testing"

	"toolchest/api"
	"toolchest/codec"
)

// The chapter's examples.
func TestExamples(t *testing.T) {
	b, err := put(t, api.Call{Kind: api.CaTick, Time: 5})
	if err != api.OK || len(b) != 77 || b[0] != 0x0c {
		t.Errorf("Put of CaTick: % x, %d", b, err)
	}
	_, _, err = get(t, nil)
	wantErr(t, "Get of nothing", err, api.ErrForm)
	_, _, err = get(t, b[:76])
	wantErr(t, "Get of 76 bytes", err, api.ErrForm)
	if n := codec.Sum([]byte("123456789")); n != 0xcbf43926 {
		t.Errorf("Sum of 123456789: %x", n)
	}
	if n := codec.Sum(nil); n != 0 {
		t.Errorf("Sum of nothing: %x", n)
	}
}

// P16.1: a call's bytes, one by one.
func TestCallBytes(t *testing.T) {
	c := api.Call{Kind: api.CaRename, Path: "pa", Other: "o\x00\xff", Mode: 0x0807060504030201, User: -1, Group: -2, Time: 1 << 63 >> 1, Data: []byte{9, 0}, Env: api.Env{User: 3, Group: 0x100, Mask: -0x100, Dir: 7}}
	want := strings.ReplaceAll("08"+
		" 02000000 7061"+
		" 03000000 6f00ff"+
		" 0102030405060708"+
		" ffffffffffffffff"+
		" feffffffffffffff"+
		" 0000000000000040"+
		" 02000000 0900"+
		" 0300000000000000"+
		" 0001000000000000"+
		" 00ffffffffffffff"+
		" 0700000000000000", " ", "")
	b, err := put(t, c)
	if err != api.OK || hex.EncodeToString(b) != want {
		t.Errorf("Put: %x, %d, want %s", b, err, want)
	}
	raw, _ := hex.DecodeString(want + "0102")
	got, n, err := get(t, raw)
	if err != api.OK || n != len(raw)-2 || !sameCall(got, c) {
		t.Errorf("Get: %v, %d, %d", got, n, err)
	}
}

// P16.1: any kind, such as there is none too.
func TestCallKinds(t *testing.T) {
	for kind := range 256 {
		c := sampleCall()
		c.Kind = api.CallKind(kind)
		b, err := put(t, c)
		if err != api.OK || b[0] != byte(kind) {
			t.Errorf("Put of kind %d: %d", kind, err)
		}
		if got, _, err := get(t, b); err != api.OK || got.Kind != c.Kind {
			t.Errorf("Get of kind %d: %d, %d", kind, got.Kind, err)
		}
	}
}

// callNumbers: the places of a call's numbers.
func callNumbers(c *api.Call) []*int {
	e := &c.Env
	return []*int{&c.Mode, &c.User, &c.Group, &c.Time, &e.User, &e.Group, &e.Mask, &e.Dir}
}

// P16.1: numbers below 0, and of all 64 bits, each in its own place.
func TestCallNumbers(t *testing.T) {
	var zero api.Call
	for place := range callNumbers(&zero) {
		for _, n := range numbers() {
			var c api.Call
			*callNumbers(&c)[place] = n
			b, err := put(t, c)
			at := 9 + 8*place
			if place >= 4 {
				at += 4 // Data's length
			}
			if err != api.OK || len(b) != 77 || binary.LittleEndian.Uint64(b[at:]) != uint64(n) {
				t.Errorf("Put of %d at %d: % x, %d", n, place, b, err)
			}
			got, _, err := get(t, b)
			if err != api.OK || *callNumbers(&got)[place] != n {
				t.Errorf("Get of %d at %d: %v, %d", n, place, got, err)
			}
		}
	}
}

// setText puts a text into a call: 0 Path, 1 Other, 2 Data.
func setText(c *api.Call, which int, s string) {
	switch which {
	case 0:
		c.Path = s
	case 1:
		c.Other = s
	case 2:
		c.Data = []byte(s)
	}
}

// P16.1, P0.5: texts of any bytes, up to MaxFile of them; one more is refused.
func TestCallTexts(t *testing.T) {
	for which := range 3 {
		for _, s := range []string{"", "\x00", "\n", "\xff\xfe", allBytes(), longText(255), longText(256), longText(65535), longText(api.MaxFile)} {
			c := sampleCall()
			setText(&c, which, s)
			b, err := put(t, c)
			wantErr(t, "Put of a text of "+strconv.Itoa(len(s)), err, api.OK)
			_, _, err = get(t, b)
			wantErr(t, "Get of a text of "+strconv.Itoa(len(s)), err, api.OK)
		}
		for _, n := range []int{api.MaxFile + 1, api.MaxFile + 256, 2 * api.MaxFile, 1 << 24} {
			c := sampleCall()
			setText(&c, which, longText(n))
			_, err := put(t, c)
			wantErr(t, "Put of a text of "+strconv.Itoa(n), err, api.ErrArg)
		}
	}
	c := sampleCall()
	for which := range 3 {
		setText(&c, which, longText(api.MaxFile))
	}
	b, err := put(t, c)
	if err != api.OK || len(b) != 77+3*api.MaxFile {
		t.Errorf("Put of three long texts: %d bytes, %d", len(b), err)
	}
}

// P16.1: bytes that end ahead of a whole call, at every place, even if their spare room has the rest.
func TestGetCut(t *testing.T) {
	for _, c := range []api.Call{{}, sampleCall(), {Kind: api.CaSymlink, Path: allBytes(), Other: "o", Data: []byte(allBytes())}} {
		b, _ := put(t, c)
		for i := range b {
			_, n, err := get(t, b[:i])
			if err != api.ErrForm || n != 0 {
				t.Errorf("Get of %d of %d bytes: %d, %d", i, len(b), n, err)
			}
			_, _, err = get(t, bytes.Clone(b[:i]))
			wantErr(t, "Get of a copy of "+strconv.Itoa(i), err, api.ErrForm)
		}
	}
}

// P16.1: bytes behind a whole call are left.
func TestGetBehind(t *testing.T) {
	first, _ := put(t, sampleCall())
	second, _ := put(t, api.Call{Kind: api.CaTick, Time: 5})
	for _, behind := range [][]byte{{0}, {9}, make([]byte, 100), bytes.Repeat([]byte{255}, 1000), second} {
		got, n, err := get(t, append(bytes.Clone(first), behind...))
		if err != api.OK || n != len(first) || !sameCall(got, sampleCall()) {
			t.Errorf("Get with %d bytes behind: %d of %d, %d", len(behind), n, len(first), err)
		}
	}
	both := append(bytes.Clone(first), second...)
	_, n, _ := get(t, both)
	got, m, err := get(t, both[n:])
	if err != api.OK || n+m != len(both) || got.Kind != api.CaTick || got.Time != 5 {
		t.Errorf("Get of the second of two: %v, %d, %d", got, m, err)
	}
}

// P16.1: a text's length above MaxFile, whatever stands behind it.
func TestGetLengths(t *testing.T) {
	rest := bytes.Repeat([]byte{0}, 4*api.MaxFile)
	for which, at := range []int{1, 5, 41} { // where the lengths of Path, Other, Data stand, if those ahead are empty
		for _, n := range []uint32{api.MaxFile + 1, api.MaxFile + 2, 2 * api.MaxFile, 1 << 24, 1<<31 - 1, 1 << 31, 1<<32 - 1} {
			b := append(make([]byte, 77), rest...)
			binary.LittleEndian.PutUint32(b[at:], n)
			_, _, err := get(t, b)
			wantErr(t, "Get of a length of "+strconv.Itoa(int(n)), err, api.ErrForm)
		}
		for _, n := range []uint32{0, 1, 255, 256, 65535, api.MaxFile} {
			b := append(make([]byte, 77), rest...)
			binary.LittleEndian.PutUint32(b[at:], n)
			c, got, err := get(t, b)
			if err != api.OK || got != 77+int(n) || len([]string{c.Path, c.Other, string(c.Data)}[which]) != int(n) {
				t.Errorf("Get of a length of %d at %d: %d, %d", n, at, got, err)
			}
			_, _, err = get(t, b[:77+n-1])
			wantErr(t, "Get of a length of "+strconv.Itoa(int(n))+" with one byte less", err, api.ErrForm)
		}
	}
}

// R4: what is answered is new memory, and nothing that is handed in is kept.
func TestCallMemory(t *testing.T) {
	c := sampleCall()
	room := []byte("hi and room behind")
	c.Data = room[:2]
	first, _ := codec.Put(c)
	second, _ := codec.Put(c)
	want := bytes.Clone(second)
	scribble(first)
	if !bytes.Equal(second, want) || string(room) != "hi and room behind" {
		t.Error("Put's answers share memory")
	}
	scribble(room)
	if !bytes.Equal(second, want) {
		t.Error("Put's answer shares memory with Data")
	}

	b := append(bytes.Clone(want), "behind"...)
	x, _, _ := codec.Get(b)
	y, _, _ := codec.Get(b)
	scribble(x.Data)
	if !bytes.Equal(b, append(bytes.Clone(want), "behind"...)) || !sameCall(y, sampleCall()) {
		t.Error("Get's answer shares memory")
	}
	scribble(b)
	if !sameCall(y, sampleCall()) {
		t.Error("Get keeps the bytes")
	}

	empty, _ := codec.Put(api.Call{})
	room = append(empty, "room"...)
	z, _, _ := codec.Get(room[:77])
	scribble(z.Data)
	if string(room[77:]) != "room" || !bytes.Equal(room[:77], make([]byte, 77)) {
		t.Error("Get's empty Data has room in the bytes")
	}
}

// scribble writes over a list, and its spare room.
func scribble(b []byte) {
	b = b[:cap(b)]
	for i := range b {
		b[i] ^= 0xa5
	}
}

// R4: empty and nil mean the same.
func TestCallEmpty(t *testing.T) {
	a, _ := put(t, api.Call{Kind: api.CaWrite})
	b, _ := put(t, api.Call{Kind: api.CaWrite, Data: []byte{}})
	c, _ := put(t, api.Call{Kind: api.CaWrite, Data: []byte("room")[:0]})
	if !bytes.Equal(a, b) || !bytes.Equal(a, c) {
		t.Error("Put tells an empty Data from none")
	}
	_, n, err := get(t, []byte{})
	if n != 0 || err != api.ErrForm {
		t.Errorf("Get of an empty list: %d, %d", n, err)
	}
}
