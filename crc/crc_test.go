package crc_test

import (
	"bytes"
	"hash/crc32"
	"math"
	"math/rand"
	"slices"
	"strings"
	"sync"
	"testing"

	"haberdash/crc"
)

// P5.1

// plain is P5.1 word by word, bits as truths: register and byte as lists, the lowest bit first.
func plain(b []byte) uint32 {
	register := make([]bool, 32)
	for i := range register {
		register[i] = true
	}
	for _, one := range b {
		for bit := 1; bit <= 128; bit *= 2 {
			odd := register[0] != (int(one)&bit != 0)
			register = append(register[1:32:32], false)
			for i := range register {
				if odd && 0xedb88320>>i&1 == 1 {
					register[i] = !register[i]
				}
			}
		}
	}
	sum := uint32(0)
	for i, set := range register {
		if !set {
			sum |= 1 << i
		}
	}
	return sum
}

// sums are those at the ends of 32 bits, of nothing, and of some bytes.
func sums() []uint32 {
	return []uint32{0, 1, 2, 0x7fffffff, 0x80000000, 0xedb88320, 0x12477cdf, 0xcbf43926, 0x04c11db7, math.MaxUint32 - 1, math.MaxUint32}
}

// random is n bytes of r.
func random(r *rand.Rand, n int) []byte {
	b := make([]byte, n)
	r.Read(b)
	return b
}

// held holds Sum of b, and More of it behind nothing, against want.
func held(t *testing.T, b []byte, want uint32) {
	t.Helper()
	if got := crc.Sum(b); got != want {
		t.Errorf("Sum of %d bytes that begin with %x: %08x, want %08x", len(b), b[:min(len(b), 8)], got, want)
	}
	if got := crc.More(0, b); got != want {
		t.Errorf("More(0) of %d bytes that begin with %x: %08x, want %08x", len(b), b[:min(len(b), 8)], got, want)
	}
}

func TestSumOfTheExamples(t *testing.T) {
	held(t, []byte("123456789"), 0xcbf43926)
	held(t, []byte(""), 0)
}

func TestSumOfNothing(t *testing.T) {
	for _, b := range [][]byte{nil, {}, []byte("room")[:0]} {
		held(t, b, 0)
	}
}

func TestSumOfWhatIsKnown(t *testing.T) {
	for s, want := range map[string]uint32{
		"a": 0xe8b7be43, "abc": 0x352441c2, "The quick brown fox jumps over the lazy dog": 0x414fa339,
		"\x00": 0xd202ef8d, "\x00\x00": 0x41d912ff, "\x00\x00\x00\x00": 0x2144df1c, strings.Repeat("\x00", 32): 0x190a55ad,
		"\xff": 0xff000000, "\xff\xff": 0xffff0000, "\xff\xff\xff\xff": 0xffffffff, strings.Repeat("\xff", 32): 0xff6cab0b,
		"\x01": 0xa505df1b, "\x80": 0x3fba6cad, // the lowest bit alone, and the highest
	} {
		held(t, []byte(s), want)
	}
}

func TestSumOfEachByte(t *testing.T) {
	for x := range 256 {
		b := []byte{byte(x)}
		held(t, b, plain(b))
		held(t, b, crc32.ChecksumIEEE(b))
	}
}

func TestSumOfTwoBytes(t *testing.T) {
	for x := range 1 << 16 {
		b := []byte{byte(x), byte(x >> 8)}
		held(t, b, crc32.ChecksumIEEE(b))
	}
}

func TestSumOfAllAlike(t *testing.T) {
	for _, x := range []byte{0, 0xff, 1, 0x80, 0x55, 0xaa} {
		for n := range 130 {
			b := bytes.Repeat([]byte{x}, n)
			held(t, b, plain(b))
		}
	}
}

// What differs in how many noughts lie at its beginning or end alone has sums of its own.
func TestSumTellsNoughts(t *testing.T) {
	of := map[uint32]int{}
	for n := range 200 {
		of[crc.Sum(make([]byte, n))]++
		of[crc.Sum(append(make([]byte, n), 'x'))]++
		of[crc.Sum(append([]byte("y"), make([]byte, n)...))]++
	}
	if len(of) != 600 {
		t.Errorf("600 lists of bytes have %d sums", len(of))
	}
}

func TestSumOfManyBytes(t *testing.T) {
	r := rand.New(rand.NewSource(51))
	for n := range 200 {
		b := random(r, n)
		held(t, b, plain(b))
	}
	for _, n := range []int{255, 256, 257, 4_095, 4_096, 65_537, 400_000} {
		b := random(r, n)
		held(t, b, crc32.ChecksumIEEE(b))
	}
}

func TestMoreOfNothing(t *testing.T) {
	r := rand.New(rand.NewSource(52))
	of := sums()
	for range 100 {
		of = append(of, r.Uint32())
	}
	for _, sum := range of {
		for _, b := range [][]byte{nil, {}, []byte("room")[:0]} {
			if got := crc.More(sum, b); got != sum {
				t.Errorf("More(%08x) of nothing: %08x", sum, got)
			}
		}
	}
}

// Each sum is that of some bytes, those that no call of Sum told among them.
func TestMoreOfAnySum(t *testing.T) {
	r := rand.New(rand.NewSource(53))
	of := sums()
	for i := range 32 {
		of = append(of, 1<<i, r.Uint32())
	}
	for _, sum := range of {
		for n := range 20 {
			for _, b := range [][]byte{random(r, n), make([]byte, n), bytes.Repeat([]byte{0xff}, n)} {
				if got, want := crc.More(sum, b), crc32.Update(sum, crc32.IEEETable, b); got != want {
					t.Errorf("More(%08x, %x): %08x, want %08x", sum, b, got, want)
				}
			}
		}
	}
}

func TestMoreOfEachByte(t *testing.T) {
	for _, sum := range sums() {
		for x := range 256 {
			b := []byte{byte(x)}
			if got, want := crc.More(sum, b), crc32.Update(sum, crc32.IEEETable, b); got != want {
				t.Errorf("More(%08x, %x): %08x, want %08x", sum, b, got, want)
			}
		}
	}
}

// The chapter's 'What follows': bytes in pieces have the sum of the whole.
func TestTwoPieces(t *testing.T) {
	r := rand.New(rand.NewSource(54))
	for n := range 60 {
		b := random(r, n)
		want := plain(b)
		for k := range n + 1 {
			if got := crc.More(crc.Sum(b[:k]), b[k:]); got != want {
				t.Errorf("%x, in pieces of %d and %d: %08x, want %08x", b, k, n-k, got, want)
			}
		}
	}
}

func TestManyPieces(t *testing.T) {
	r := rand.New(rand.NewSource(55))
	for range 2_000 {
		b := random(r, r.Intn(200))
		sum, left := crc.Sum(nil), b
		for len(left) > 0 {
			k := r.Intn(min(len(left), 9) + 1) // empty pieces among them
			sum, left = crc.More(sum, left[:k]), left[k:]
		}
		if want := plain(b); sum != want {
			t.Fatalf("%x in pieces: %08x, want %08x", b, sum, want)
		}
	}
}

// turned is b with the bits of by turned from the bit at on, each byte's lowest first.
func turned(b []byte, at int, by uint32) []byte {
	b = slices.Clone(b)
	for i := range 32 {
		if by>>i&1 == 1 {
			b[(at+i)/8] ^= 1 << ((at + i) % 8)
		}
	}
	return b
}

// The chapter's 'What follows': bits turned within 32 neighbouring ones turn the sum.
func TestTurnedBits(t *testing.T) {
	r := rand.New(rand.NewSource(56))
	for _, b := range [][]byte{random(r, 56), make([]byte, 56), bytes.Repeat([]byte{0xff}, 56), []byte("haberdash"), {0, 0, 0, 0}} {
		sum := crc.Sum(b)
		for at := range len(b)*8 - 31 { // so most of them lie over the ends of bytes
			by := []uint32{math.MaxUint32, 0xff, 0x1fe, 0xedb88320, 0xdb710641, 0x80000001}
			for i := range 32 { // each alone, and with the first of them
				by = append(by, 1<<i, 1<<i|1, math.MaxUint32>>i)
			}
			for range 50 {
				by = append(by, r.Uint32()|1)
			}
			for _, x := range by {
				if crc.Sum(turned(b, at, x)) == sum {
					t.Fatalf("%x has the sum of the same with the bits %08x from %d on turned", b, x, at)
				}
			}
		}
	}
}

// All ways to turn bits within two bytes, at each place among others.
func TestAllTurnsOfTwoBytes(t *testing.T) {
	b := []byte("\x00\xff7\x80ab\x01")
	sum := crc.Sum(b)
	for at := range len(b) - 1 {
		for by := uint32(1); by < 1<<16; by++ {
			if crc.Sum(turned(b, at*8, by)) == sum {
				t.Fatalf("%x has the sum of the same with the bits %04x of the bytes from %d on turned", b, by, at)
			}
		}
	}
}

func TestTwoOfAnotherOrder(t *testing.T) {
	for x := range 256 {
		for y := range x {
			if crc.Sum([]byte{byte(x), byte(y)}) == crc.Sum([]byte{byte(y), byte(x)}) {
				t.Errorf("%02x and %02x have one sum in both orders", x, y)
			}
		}
	}
}

// R3: what is handed in stays as it was, and the room behind its end does, too. What stands there plays no part.
func TestWhatIsHandedInStays(t *testing.T) {
	r := rand.New(rand.NewSource(57))
	for n := range 40 {
		room := random(r, 64)
		was := slices.Clone(room)
		b := room[:n]
		sum, more := crc.Sum(b), crc.More(7, b)
		if !bytes.Equal(room, was) {
			t.Fatalf("of %d bytes: %x, with the room behind, is %x behind the calls", n, was, room)
		}
		whole := slices.Clip(slices.Clone(b))
		for i := range room[n:] {
			room[n+i] ^= 0xff
		}
		for range 2 { // nor is anything kept
			if crc.Sum(b) != sum || crc.More(7, b) != more || crc.Sum(whole) != sum || crc.More(7, whole) != more {
				t.Fatalf("%x has other sums with another room behind it", b)
			}
		}
	}
}

// R2: what is handed in is not kept: once it is written into, its sum is another's.
func TestNothingIsKept(t *testing.T) {
	b := []byte("123456789")
	held(t, b, 0xcbf43926)
	copy(b, "the other")
	held(t, b, plain([]byte("the other")))
	copy(b, "123456789")
	held(t, b, 0xcbf43926)
}

func TestBesideEachOther(t *testing.T) {
	r := rand.New(rand.NewSource(58))
	b := random(r, 3_000)
	got := make([]uint32, len(b))
	var all sync.WaitGroup
	for k := range got {
		all.Go(func() { got[k] = crc.More(crc.Sum(b[:k]), b[k:]) })
	}
	all.Wait()
	want := crc32.ChecksumIEEE(b)
	for k, sum := range got {
		if sum != want {
			t.Fatalf("beside others, in pieces from %d on: %08x, want %08x", k, sum, want)
		}
	}
}

func BenchmarkSumOfALeaf(b *testing.B) {
	leaf := random(rand.New(rand.NewSource(59)), 56)
	for b.Loop() {
		crc.Sum(leaf)
	}
}
