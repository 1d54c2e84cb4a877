package codec_test

import (
	"bytes"
	"hash/crc32"
	"math/rand"
	"testing"

	"toolchest/api"
	"toolchest/codec"
)

// slowSum: bit by bit.
func slowSum(b []byte) uint32 {
	x := ^uint32(0)
	for _, c := range b {
		for i := range 8 {
			low := x&1 ^ uint32(c>>i&1)
			x >>= 1
			if low == 1 {
				x ^= 0xedb88320
			}
		}
	}
	return ^x
}

// P16.3: known sums.
func TestSumKnown(t *testing.T) {
	for s, want := range map[string]uint32{
		"":                 0,
		"a":                0xe8b7be43,
		"\x00":             0xd202ef8d,
		"\xff":             0xff000000,
		"\xff\xff\xff\xff": 0xffffffff,
		"123456789":        0xcbf43926,
		"The quick brown fox jumps over the lazy dog": 0x414fa339,
	} {
		if n := codec.Sum([]byte(s)); n != want {
			t.Errorf("Sum of %q: %x, want %x", s, n, want)
		}
	}
	if codec.Sum(nil) != 0 || codec.Sum([]byte{}) != 0 || codec.Sum([]byte("room")[:0]) != 0 {
		t.Error("Sum of nothing")
	}
}

// P16.3: each byte, each length, long texts.
func TestSum(t *testing.T) {
	texts := []string{longText(api.MaxFile), longText(api.MaxText), longText(api.MaxText + 1), allBytes()}
	for i := range 256 {
		texts = append(texts, string([]byte{byte(i)}), "x"+string([]byte{byte(i)}))
	}
	for n := range 600 {
		texts = append(texts, longText(n), string(make([]byte, n)), string(bytes.Repeat([]byte{255}, n)))
	}
	for _, s := range texts {
		b := []byte(s)
		got := codec.Sum(b)
		if want := slowSum(b); got != want || want != crc32.ChecksumIEEE(b) {
			t.Errorf("Sum of %d bytes: %x, want %x", len(b), got, want)
		}
		if string(b) != s {
			t.Error("Sum changed the bytes")
		}
	}
	disk := []byte(longText(api.MaxDisk))
	if got, want := codec.Sum(disk), crc32.ChecksumIEEE(disk); got != want {
		t.Errorf("Sum of a disk: %x, want %x", got, want)
	}
}

// turn changes bits of b, from a place on (each byte taken the lowest bit first); false, if they stand behind its end.
func turn(b []byte, at int, bits uint32) bool {
	for i := range 32 {
		if bits>>i&1 == 0 {
			continue
		}
		if (at+i)/8 >= len(b) {
			return false
		}
		b[(at+i)/8] ^= 1 << ((at + i) % 8)
	}
	return true
}

// P16.4: a change within 32 neighbouring bits changes the sum.
func TestSumChange(t *testing.T) {
	r := rand.New(rand.NewSource(16))
	for _, n := range []int{1, 2, 3, 4, 5, 8, 9, 33, 100, 300} {
		text := []byte(longText(n))
		was := codec.Sum(text)
		for at := range 8 * n {
			changes := []uint32{1, 2, 3, 1<<31 | 1, 1 << 31, 1<<32 - 1, 0xedb88320, 0xdb710641, 0x04c11db7, 0xff, 0xff00ff00}
			for range 20 {
				changes = append(changes, r.Uint32()|1)
			}
			for k := range 31 {
				changes = append(changes, 1|2<<k)
			}
			for _, bits := range changes {
				b := bytes.Clone(text)
				if turn(b, at, bits) && codec.Sum(b) == was {
					t.Fatalf("%d bytes: the change %x at the bit %d leaves the sum", n, bits, at)
				}
			}
		}
	}
}

// P16.4: of 32 bits, all changes of the lowest 16 and of the highest 16, and of both ends.
func TestSumShort(t *testing.T) {
	text := []byte("abcd")
	was := codec.Sum(text)
	for i := uint32(1); i < 1<<16; i++ {
		for _, bits := range []uint32{i, i << 16, i | i<<16, i<<8 ^ i>>8<<24 ^ i} {
			b := bytes.Clone(text)
			if bits != 0 && turn(b, 0, bits) && codec.Sum(b) == was {
				t.Fatalf("the change %x leaves the sum", bits)
			}
		}
	}
}
