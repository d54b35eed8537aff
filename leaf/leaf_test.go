package leaf_test

import (
	"bytes"
	"encoding/binary"
	"hash/crc32"
	"math"
	"math/rand"
	"slices"
	"sync"
	"testing"

	"haberdash/api"
	"haberdash/leaf"
)

// P7.1

type sector = [64]byte

// plain is a leaf's bytes, word by word of the chapter, right or not; of flags and count it is told apart.
func plain(l api.Leaf, flags, count byte) sector {
	var b sector
	binary.BigEndian.PutUint32(b[0:], l.Epoch)
	binary.BigEndian.PutUint32(b[4:], l.Number)
	b[8], b[9] = flags, count
	copy(b[10:56], l.Data)
	return again(sealed(b))
}

// plainOf is plain with the flags and the count that l has.
func plainOf(l api.Leaf) sector {
	flags := byte(0)
	if l.First {
		flags = 1
	}
	if l.Last {
		flags += 2
	}
	return plain(l, flags, byte(len(l.Data)))
}

// sealed is b with the right sum.
func sealed(b sector) sector {
	binary.BigEndian.PutUint32(b[56:], crc32.ChecksumIEEE(b[:56]))
	return b
}

// again is b with its first four bytes once more at its end.
func again(b sector) sector {
	copy(b[60:], b[:4])
	return b
}

// set is b with another byte at that place.
func set(b sector, at int, one byte) sector {
	b[at] = one
	return b
}

// plainTake is what Take answers of b, word by word of the chapter.
func plainTake(b sector) (api.Leaf, bool) {
	n := int(b[9])
	switch {
	case b[8] > 3, n < 1, n > 46, n < 46 && b[8] < 2:
		return api.Leaf{}, false
	case binary.BigEndian.Uint32(b[0:]) == 0, !bytes.Equal(b[:4], b[60:]):
		return api.Leaf{}, false
	case !bytes.Equal(b[10+n:56], make([]byte, 46-n)), binary.BigEndian.Uint32(b[56:]) != crc32.ChecksumIEEE(b[:56]):
		return api.Leaf{}, false
	}
	return api.Leaf{
		Epoch: binary.BigEndian.Uint32(b[0:]), Number: binary.BigEndian.Uint32(b[4:]),
		First: b[8] == 1 || b[8] == 3, Last: b[8] >= 2, Data: b[10 : 10+n],
	}, true
}

// same holds two leaves against each other.
func same(a, b api.Leaf) bool {
	return a.Epoch == b.Epoch && a.Number == b.Number && a.First == b.First && a.Last == b.Last && bytes.Equal(a.Data, b.Data)
}

// lays holds Lay of what is right against its bytes, and Take of these against it.
func lays(t testing.TB, l api.Leaf) {
	t.Helper()
	want := plainOf(l)
	if b, err := leaf.Lay(l); err != api.OK || b != want {
		t.Errorf("Lay(%v): %x, error %d; want %x", l, b, err, want)
	}
	if got, is := leaf.Take(want); !is || !same(got, l) {
		t.Errorf("Take of the bytes of %v: %v, %v", l, got, is)
	}
}

// refuses holds that Lay does not lay l, and that its bytes, if it had any, are taken as none.
func refuses(t testing.TB, l api.Leaf) {
	t.Helper()
	if b, err := leaf.Lay(l); err != api.ErrArg || b != (sector{}) {
		t.Errorf("Lay of %d bytes, %v: %x, error %d; want noughts, error %d", len(l.Data), l, b, err, api.ErrArg)
	}
	none(t, plainOf(l))
}

// none holds that Take of b is none.
func none(t testing.TB, b sector) {
	t.Helper()
	if l, is := leaf.Take(b); is || !same(l, api.Leaf{}) {
		t.Errorf("Take(%x): %v, %v; want none", b, l, is)
	}
}

// takes holds Take of b against plainTake, and tells whether it is a leaf.
func takes(t testing.TB, b sector) bool {
	t.Helper()
	want, is := plainTake(b)
	if got, ok := leaf.Take(b); ok != is || !same(got, want) {
		t.Errorf("Take(%x): %v, %v; want %v, %v", b, got, ok, want, is)
	}
	if is {
		lays(t, want)
	}
	return is
}

// data is n bytes, none of them nought.
func data(n int) []byte {
	b := make([]byte, n)
	for i := range b {
		b[i] = byte(1 + i%255)
	}
	return b
}

// numbers are those at the ends of 32 bits, and of each of their bytes.
func numbers() []uint32 {
	return []uint32{0, 1, 2, 0xff, 0x100, 0xffff, 0x10000, 0xffffff, 0x1000000, 0x01020304, math.MaxInt32, 1 << 31, 0xfffefdfc, math.MaxUint32 - 1, math.MaxUint32}
}

// rights are right leaves of all kinds: all ends, all lengths that may be.
func rights() []api.Leaf {
	var of []api.Leaf
	for n := 1; n <= 46; n++ {
		for _, first := range []bool{false, true} {
			of = append(of, api.Leaf{Epoch: 0x0a0b0c0d, Number: 7, First: first, Last: true, Data: data(n)})
		}
	}
	return append(of, api.Leaf{Epoch: 9, Data: data(46)}, api.Leaf{Epoch: 9, First: true, Data: data(46)})
}

// some are a few of them, the shortest and the longest.
func some() []api.Leaf {
	return []api.Leaf{
		{Epoch: 1, First: true, Last: true, Data: []byte("a")},
		{Epoch: math.MaxUint32, Number: math.MaxUint32, Last: true, Data: []byte{0, 0}},
		{Epoch: 0x01020304, Number: 0x05060708, First: true, Last: true, Data: data(45)},
		{Epoch: 1 << 31, Number: 3, Data: data(46)},
		{Epoch: 5, Number: 6, First: true, Data: make([]byte, 46)},
		{Epoch: 0x00ff00ff, Last: true, Data: bytes.Repeat([]byte{0xff}, 46)},
	}
}

// random is any right leaf.
func random(r *rand.Rand) api.Leaf {
	l := api.Leaf{Epoch: 1 + uint32(r.Int63n(math.MaxUint32)), Number: r.Uint32(), First: r.Intn(2) == 0, Last: r.Intn(2) == 0, Data: make([]byte, 46)}
	r.Read(l.Data)
	if l.Last {
		l.Data = l.Data[:1+r.Intn(46)]
	}
	return l
}

func TestTheExample(t *testing.T) {
	want := sector{3: 1, 8: 3, 9: 1, 10: 'a', 56: 0x2c, 57: 0x5d, 58: 0x7c, 59: 0xa0, 63: 1}
	l := api.Leaf{Epoch: 1, First: true, Last: true, Data: []byte("a")}
	if b, err := leaf.Lay(l); err != api.OK || b != want {
		t.Errorf("Lay of the example: %x, error %d; want %x", b, err, want)
	}
	if got, is := leaf.Take(want); !is || !same(got, l) {
		t.Errorf("Take of the example: %v, %v", got, is)
	}
	if got := leaf.Mark(want); got != 1 {
		t.Errorf("Mark of the example: %d", got)
	}
}

// Each byte stands where the chapter says, the highest one of each number first.
func TestWhereAllOfItStands(t *testing.T) {
	want := sector{1, 2, 3, 4, 5, 6, 7, 8, 0, 46, 56: 0x3e, 57: 0x6d, 58: 0x69, 59: 0x9f, 60: 1, 61: 2, 62: 3, 63: 4}
	for i := range 46 {
		want[10+i] = byte(i + 1)
	}
	if b, err := leaf.Lay(api.Leaf{Epoch: 0x01020304, Number: 0x05060708, Data: data(46)}); err != api.OK || b != want {
		t.Errorf("Lay: %x, error %d; want %x", b, err, want)
	}
	want = sector{255, 255, 255, 255, 255, 255, 255, 255, 2, 2, 56: 0x65, 57: 0xba, 58: 0xc0, 59: 0xc2, 60: 255, 61: 255, 62: 255, 63: 255}
	if b, err := leaf.Lay(api.Leaf{Epoch: math.MaxUint32, Number: math.MaxUint32, Last: true, Data: []byte{0, 0}}); err != api.OK || b != want {
		t.Errorf("Lay: %x, error %d; want %x", b, err, want)
	}
}

func TestAllLengthsAndEnds(t *testing.T) {
	for _, l := range rights() {
		lays(t, l)
		l.Data = make([]byte, len(l.Data)) // noughts at the end are Data like others
		lays(t, l)
		l.Data[0] = 1
		lays(t, l)
	}
}

func TestAllFourFlags(t *testing.T) {
	for flags := range byte(4) {
		l := api.Leaf{Epoch: 1, First: flags == 1 || flags == 3, Last: flags >= 2, Data: data(46)}
		b, err := leaf.Lay(l)
		if err != api.OK || b[8] != flags {
			t.Errorf("Lay, First %v, Last %v: error %d, byte 8 is %d; want %d", l.First, l.Last, err, b[8], flags)
		}
		if got, is := leaf.Take(b); !is || got.First != l.First || got.Last != l.Last {
			t.Errorf("Take, byte 8 is %d: %v, %v", flags, got, is)
		}
	}
}

func TestEpochsAndNumbers(t *testing.T) {
	for _, epoch := range numbers() {
		for _, number := range numbers() {
			for _, l := range some() {
				l.Epoch, l.Number = epoch, number
				if epoch == 0 {
					refuses(t, l)
				} else {
					lays(t, l)
				}
			}
		}
	}
}

// No Epoch is none, whatever the other things are.
func TestEpochOfNought(t *testing.T) {
	for _, l := range append(rights(), some()...) {
		l.Epoch = 0
		refuses(t, l)
		l.Number = 1
		refuses(t, l)
	}
}

func TestLengthsThatMayNotBe(t *testing.T) {
	for _, first := range []bool{false, true} {
		l := api.Leaf{Epoch: 1, Number: 1, First: first}
		for n := range 46 {
			l.Last, l.Data = false, data(n) // it has room left, and goes on in another
			refuses(t, l)
			l.Data = make([]byte, n)
			refuses(t, l)
		}
		l.Data = data(46)
		lays(t, l)
		l.Last, l.Data = true, data(45)
		lays(t, l)
		for _, of := range [][]byte{nil, {}, data(46)[:0]} {
			for _, last := range []bool{false, true} {
				l.Last, l.Data = last, of
				refuses(t, l)
			}
		}
	}
}

// Too much Data is refused, also where its length, as one byte, would be right.
func TestTooMuchData(t *testing.T) {
	for _, n := range []int{47, 48, 56, 64, 255, 256, 257, 256 + 45, 256 + 46, 256 + 47, 512 + 1, 1<<16 + 1, 1<<16 + 46, api.MaxRecord} {
		for _, last := range []bool{false, true} {
			l := api.Leaf{Epoch: 1, First: true, Last: last, Data: data(n)}
			if b, err := leaf.Lay(l); err != api.ErrArg || b != (sector{}) {
				t.Errorf("Lay of %d bytes, Last %v: %x, error %d; want noughts, error %d", n, last, b, err, api.ErrArg)
			}
		}
	}
}

// Byte 8 and byte 9 of all kinds, the sum being right.
func TestFlagsAndCountsOfAllKinds(t *testing.T) {
	for _, l := range some() {
		taken := 0
		for flags := range 256 {
			for count := range 256 {
				if takes(t, plain(l, byte(flags), byte(count))) {
					taken++
				}
			}
		}
		want, b := 4, plainOf(l) // of 46 bytes, and any flags up to 3
		for count := 1; count < 46; count++ {
			if bytes.Equal(b[10+count:56], make([]byte, 46-count)) {
				want += 2
			}
		}
		if taken != want {
			t.Errorf("of %v: %d kinds are taken, want %d", l, taken, want)
		}
	}
}

func TestCountsThatMayNotBe(t *testing.T) {
	for _, l := range []api.Leaf{{Epoch: 1, Data: data(46)}, {Epoch: 1, Data: data(1)}, {Epoch: 1, Data: make([]byte, 46)}} {
		for flags := range byte(4) {
			none(t, plain(l, flags, 0))
			for count := 47; count < 256; count++ {
				none(t, plain(l, flags, byte(count)))
			}
		}
	}
}

func TestFlagsThatMayNotBe(t *testing.T) {
	for _, l := range rights() {
		for flags := 4; flags < 256; flags++ {
			none(t, plain(l, byte(flags), byte(len(l.Data))))
		}
	}
}

// What goes on in another leaf has no room left.
func TestShortOnesThatAreNotLast(t *testing.T) {
	for n := range 46 {
		for flags := range byte(2) {
			none(t, plain(api.Leaf{Epoch: 1, Data: data(n)}, flags, byte(n)))
			none(t, plain(api.Leaf{Epoch: 1, Data: make([]byte, n)}, flags, byte(n)))
		}
	}
}

// Behind the Data all is nought, at each place, although the sum is right.
func TestNoNoughtBehindTheData(t *testing.T) {
	for n := 1; n < 46; n++ {
		for flags := byte(2); flags < 4; flags++ {
			b := plain(api.Leaf{Epoch: 3, Number: 4, Data: data(n)}, flags, byte(n))
			if !takes(t, b) {
				t.Fatalf("%x is none", b)
			}
			for at := 10 + n; at < 56; at++ {
				for _, one := range []byte{1, 2, 0x80, 0xff} {
					none(t, sealed(set(b, at, one)))
				}
			}
		}
	}
}

// Any one byte that is another: none.
func TestOneByteTurned(t *testing.T) {
	for _, l := range some() {
		b := plainOf(l)
		for at := range b {
			for by := 1; by < 256; by++ {
				none(t, set(b, at, b[at]^byte(by)))
			}
		}
	}
}

// Any two bits that are turned: none, both ends of the sum and of the Epochs among them.
func TestTwoBitsTurned(t *testing.T) {
	for _, l := range some()[:3] {
		b := plainOf(l)
		for i := range 512 {
			for k := range i {
				c := b
				c[i/8] ^= 1 << (i % 8)
				c[k/8] ^= 1 << (k % 8)
				none(t, c)
			}
		}
	}
}

// The Epoch at the end is the one at the beginning; the sum has no part in the one at the end.
func TestTwoEpochs(t *testing.T) {
	for _, l := range some() {
		for _, other := range numbers() {
			if other == l.Epoch {
				continue
			}
			b := plainOf(l)
			binary.BigEndian.PutUint32(b[60:], other)
			none(t, b)
			none(t, sealed(b))
			b = plainOf(l)
			binary.BigEndian.PutUint32(b[0:], other)
			none(t, b)
			none(t, sealed(b))
			none(t, again(b))
			if takes(t, again(sealed(b))) != (other != 0) {
				t.Errorf("of the Epoch %d: %x is taken otherwise", other, b)
			}
		}
	}
}

// A sum over more, or less, or with its bytes the other way about, is another.
func TestOtherSums(t *testing.T) {
	for _, l := range rights() {
		b := plainOf(l)
		sum := crc32.ChecksumIEEE(b[:56])
		for _, other := range []uint32{0, ^sum, sum + 1, sum - 1, sum << 16, crc32.ChecksumIEEE(b[:55]), crc32.ChecksumIEEE(b[1:56]), crc32.ChecksumIEEE(b[10:56]), crc32.ChecksumIEEE(b[:10+len(l.Data)])} {
			if other == sum {
				continue // of 46 bytes of Data the last one is over all
			}
			c := b
			binary.BigEndian.PutUint32(c[56:], other)
			none(t, c)
		}
		c := b
		binary.LittleEndian.PutUint32(c[56:], sum)
		none(t, c)
	}
}

// What stands in no leaf: noughts, one byte all over, also where the sum and the Epochs are right.
func TestAllAlike(t *testing.T) {
	for one := range 256 {
		b := sector(bytes.Repeat([]byte{byte(one)}, 64))
		none(t, b)
		none(t, again(sealed(b)))
	}
}

// Any bytes: what is taken is what the chapter says, and Lay makes of it the same bytes.
func TestAnyBytes(t *testing.T) {
	r := rand.New(rand.NewSource(71))
	taken := 0
	for range 200_000 {
		var b sector
		r.Read(b[:])
		b[8], b[9] = byte(r.Intn(6)), byte(r.Intn(50))
		if r.Intn(2) == 0 && b[9] <= 46 {
			clear(b[10+b[9] : 56])
		}
		if r.Intn(8) > 0 {
			b = sealed(b)
		}
		if r.Intn(8) > 0 {
			b = again(b)
		}
		if takes(t, b) {
			taken++
		}
	}
	if taken < 10_000 {
		t.Errorf("%d of 200,000 alone were leaves", taken)
	}
}

func TestAnyLeaf(t *testing.T) {
	r := rand.New(rand.NewSource(72))
	for range 20_000 {
		lays(t, random(r))
	}
}

// Marks of the numbers at both ends, the greater one first, behind, or both alike; what stands between them plays no part.
func TestMark(t *testing.T) {
	for _, x := range numbers() {
		for _, y := range numbers() {
			for _, between := range []byte{0, 1, 0x7f, 0xff} {
				b := sector(bytes.Repeat([]byte{between}, 64))
				binary.BigEndian.PutUint32(b[0:], x)
				binary.BigEndian.PutUint32(b[60:], y)
				if got := leaf.Mark(b); got != max(x, y) {
					t.Errorf("Mark of %08x and %08x: %08x", x, y, got)
				}
			}
		}
	}
}

// Each byte of the two numbers counts, the first one most.
func TestMarkOfEachByte(t *testing.T) {
	for i := range 4 {
		for one := 1; one < 256; one++ {
			want := uint32(one) << (24 - 8*i)
			for _, at := range []int{i, 60 + i} {
				if got := leaf.Mark(set(sector{}, at, byte(one))); got != want {
					t.Errorf("Mark of %02x at %d: %08x, want %08x", one, at, got, want)
				}
			}
			front := leaf.Mark(set(set(sector{}, i, byte(one)), 60+i, byte(one-1)))
			end := leaf.Mark(set(set(sector{}, i, byte(one-1)), 60+i, byte(one)))
			if front != want || end != want {
				t.Errorf("Mark of %02x beside one less, at %d: %08x and %08x, want %08x", one, i, front, end, want)
			}
		}
	}
	for at := 4; at < 60; at++ {
		if got := leaf.Mark(set(sector{}, at, 0xff)); got != 0 {
			t.Errorf("Mark of ff at %d: %08x", at, got)
		}
	}
}

func TestMarkOfALeafIsItsEpoch(t *testing.T) {
	r := rand.New(rand.NewSource(73))
	for range 1_000 {
		l := random(r)
		if got := leaf.Mark(plainOf(l)); got != l.Epoch {
			t.Errorf("Mark of a leaf of the Epoch %d: %d", l.Epoch, got)
		}
	}
}

// over is the first n bytes of b over what was there.
func over(was, b sector, n int) sector {
	copy(was[:n], b[:n])
	return was
}

// The chapter's 'What follows', at each cut, where the Epochs have no byte alike.
func TestOverAnElderOne(t *testing.T) {
	for _, data := range [][2][]byte{{data(46), []byte("a")}, {[]byte("a"), data(46)}, {data(46), data(46)}, {{0}, {0}}} {
		for _, epochs := range [][2]uint32{{0x01020304, 0x05060708}, {0x05060708, 0x01020304}, {0x01010101, math.MaxUint32}} {
			elder := plainOf(api.Leaf{Epoch: epochs[0], Number: 4, First: true, Last: true, Data: data[0]})
			newer := plainOf(api.Leaf{Epoch: epochs[1], Number: 4, First: true, Last: true, Data: data[1]})
			for n := 1; n < 64; n++ {
				none(t, over(elder, newer, n))
				if got := leaf.Mark(over(elder, newer, n)); n >= 4 && n <= 60 && got != max(epochs[0], epochs[1]) {
					t.Errorf("Mark behind a cut at %d: %08x", n, got)
				}
			}
			if !takes(t, over(elder, newer, 0)) || !takes(t, over(elder, newer, 64)) {
				t.Errorf("of the Epochs %08x, and %08x over it, one is none", epochs[0], epochs[1])
			}
		}
	}
}

// Epochs that have bytes alike: what is there is the one, whole, or the other, or none.
func TestOverAnElderOneOfANearEpoch(t *testing.T) {
	r := rand.New(rand.NewSource(74))
	for range 500 {
		a, b := random(r), random(r)
		b.Epoch = a.Epoch ^ 1<<r.Intn(32)
		if b.Epoch == 0 {
			continue
		}
		if r.Intn(3) == 0 { // but for its Epoch the same
			epoch := b.Epoch
			b = a
			b.Epoch = epoch
		}
		elder, newer := plainOf(a), plainOf(b)
		for n := range 65 {
			c := over(elder, newer, n)
			if want := c == elder || c == newer; takes(t, c) != want {
				t.Fatalf("%x with the first %d bytes of %x over it: taken %v", elder, n, newer, !want)
			}
		}
	}
}

// From one Epoch to the next the last byte alone is another: all cuts behind it are whole, those at 4 to 63 are none.
func TestOverTheEpochAhead(t *testing.T) {
	elder := plainOf(api.Leaf{Epoch: 6, First: true, Last: true, Data: []byte("elder")})
	newer := plainOf(api.Leaf{Epoch: 7, First: true, Last: true, Data: []byte("newer")})
	for n := range 65 {
		l, is := leaf.Take(over(elder, newer, n))
		want := ""
		switch {
		case n < 4:
			want = "elder"
		case n == 64:
			want = "newer"
		}
		if string(l.Data) != want || is != (want != "") {
			t.Errorf("with %d bytes over it: %q, %v; want %q", n, l.Data, is, want)
		}
	}
}

// R3: Data stays as it was, with the room behind its end, and that room plays no part.
func TestWhatIsHandedInStays(t *testing.T) {
	for n := range 60 {
		room := data(64)
		for _, last := range []bool{false, true} {
			l := api.Leaf{Epoch: 1, Last: last, Data: room[:n]}
			b, err := leaf.Lay(l)
			if !bytes.Equal(room, data(64)) || len(l.Data) != n {
				t.Fatalf("of %d bytes: with the room behind it is %x behind Lay", n, room)
			}
			l.Data = slices.Clip(data(n))
			if c, e := leaf.Lay(l); c != b || e != err {
				t.Errorf("of %d bytes: without room behind they are %x, error %d; with it %x, error %d", n, c, e, b, err)
			}
		}
	}
}

// R3: who writes to what was handed in changes nothing of what was handed out.
func TestDataIsNotKept(t *testing.T) {
	for _, l := range some() {
		want := plainOf(l)
		b, _ := leaf.Lay(l)
		for i := range l.Data {
			l.Data[i] ^= 0xff
		}
		if b != want {
			t.Errorf("the bytes turned with Data: %x, want %x", b, want)
		}
		if c, err := leaf.Lay(l); err != api.OK || c != plainOf(l) || c == want {
			t.Errorf("Lay of what was written: %x, error %d", c, err)
		}
	}
}

// R3: who writes to what was handed out, the room behind it too, changes neither the sector nor what else was, or is, handed out.
func TestWhatIsHandedOutIsNew(t *testing.T) {
	for _, l := range append(rights(), some()...) {
		b := plainOf(l)
		was := b
		x, is := leaf.Take(b)
		y, ok := leaf.Take(b)
		if !is || !ok {
			t.Fatalf("%x is none", b)
		}
		room := x.Data[:cap(x.Data)]
		for i := range room {
			room[i] ^= 0xff
		}
		x.Data = append(x.Data, 1, 2, 3)
		if b != was || !same(y, l) {
			t.Errorf("with what was taken the sector is %x, want %x; the other one is %v, want %v", b, was, y, l)
		}
		if z, is := leaf.Take(b); !is || !same(z, l) {
			t.Errorf("taken again: %v, %v; want %v", z, is, l)
		}
		for i := range b {
			b[i] ^= 0xff
		}
		if !same(y, l) {
			t.Errorf("with the sector what was taken is %v, want %v", y, l)
		}
	}
}

// R2: nothing hangs on what was done with others, ahead or at the same time.
func TestBesideEachOther(t *testing.T) {
	r := rand.New(rand.NewSource(75))
	leaves := make([]api.Leaf, 500)
	for i := range leaves {
		leaves[i] = random(r)
	}
	got := make([]api.Leaf, len(leaves))
	var all sync.WaitGroup
	for i, l := range leaves {
		all.Go(func() {
			b, _ := leaf.Lay(l)
			got[i], _ = leaf.Take(b)
		})
	}
	all.Wait()
	for i, l := range leaves {
		if !same(got[i], l) {
			t.Errorf("beside others: %v, want %v", got[i], l)
		}
	}
}

func BenchmarkTake(b *testing.B) {
	c := plainOf(api.Leaf{Epoch: 1, Data: data(46)})
	for b.Loop() {
		leaf.Take(c)
	}
}

func BenchmarkTakeOfNoughts(b *testing.B) {
	for b.Loop() {
		leaf.Take(sector{})
	}
}
