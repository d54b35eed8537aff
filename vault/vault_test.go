package vault_test

import (
	"bytes"
	"encoding/binary"
	"fmt"
	"math"
	"math/rand"
	"slices"
	"sync"
	"testing"

	"haberdash/api"
	"haberdash/disk"
	"haberdash/leaf"
	"haberdash/vault"
)

type sector = [64]byte

// data is n bytes that tell which record they are of, and where in it they stand.
func data(n int, of byte) []byte {
	b := make([]byte, n)
	for i := range b {
		b[i] = of + byte(i*7) + byte(i/46)
	}
	return b
}

// list is the bytes of records of those lengths.
func list(lengths ...int) [][]byte {
	var of [][]byte
	for i, n := range lengths {
		of = append(of, data(n, byte(i+1)))
	}
	return of
}

// based is a base as its record has it: behind a byte 1.
func based(base []byte) []byte { return append([]byte{1}, base...) }

// needs is how many leaves records have together, counted 46 by 46.
func needs(l ...[]byte) int {
	n := 0
	for _, b := range l {
		for ; len(b) > 0; n++ {
			b = b[min(46, len(b)):]
		}
	}
	return n
}

// same holds records against each other.
func same(a, b [][]byte) bool { return slices.EqualFunc(a, b, bytes.Equal) }

// lengths is how many bytes each of them has.
func lengths(l [][]byte) []int {
	of := make([]int, len(l))
	for i, b := range l {
		of[i] = len(b)
	}
	return of
}

// laid is the bytes of a leaf that may be laid.
func laid(l api.Leaf) sector {
	b, err := leaf.Lay(l)
	if err != api.OK {
		panic(fmt.Sprintf("Lay(%v): error %d", l, err))
	}
	return b
}

// record is the sectors of a record, as chapter 8 says.
func record(epoch, number uint32, b []byte) []sector {
	var of []sector
	for at := 0; at < len(b); at += 46 {
		end := min(at+46, len(b))
		of = append(of, laid(api.Leaf{Epoch: epoch, Number: number, First: at == 0, Last: end == len(b), Data: b[at:end]}))
	}
	return of
}

// records is the sectors of records of one epoch, from that number on.
func records(epoch, number uint32, l ...[]byte) []sector {
	var of []sector
	for i, b := range l {
		of = append(of, record(epoch, number+uint32(i), b)...)
	}
	return of
}

// marked is a sector that is no leaf, with those numbers where a leaf has its Epoch.
func marked(ahead, behind uint32) sector {
	var b sector
	binary.BigEndian.PutUint32(b[:], ahead)
	binary.BigEndian.PutUint32(b[60:], behind)
	return b
}

// made is a disk of n sectors.
func made(t testing.TB, n int) *disk.Disk {
	t.Helper()
	d, err := disk.New(n)
	if err != api.OK {
		t.Fatalf("a disk of %d: error %d", n, err)
	}
	return d
}

// lay writes sectors from that one on, and makes them sure.
func lay(t testing.TB, d *disk.Disk, at int, of ...sector) {
	t.Helper()
	for i, b := range of {
		if err := d.Write(at+i, b); err != api.OK {
			t.Fatalf("Write(%d): error %d", at+i, err)
		}
	}
	if err := d.Sync(); err != api.OK {
		t.Fatalf("Sync: error %d", err)
	}
}

// on is a disk of just those sectors.
func on(t testing.TB, of ...sector) *disk.Disk {
	t.Helper()
	d := made(t, len(of))
	lay(t, d, 0, of...)
	return d
}

// halves is a disk of 2n sectors, whose halves begin with those, and some behind both.
func halves(t testing.TB, n int, first, second []sector, odd ...sector) *disk.Disk {
	t.Helper()
	d := made(t, 2*n+len(odd))
	lay(t, d, 0, first...)
	lay(t, d, n, second...)
	lay(t, d, 2*n, odd...)
	return d
}

// all is what stands in all sectors.
func all(t testing.TB, d *disk.Disk) []sector {
	t.Helper()
	of := make([]sector, d.Len())
	for at := range of {
		b, err := d.Read(at)
		if err != api.OK {
			t.Fatalf("Read(%d): error %d", at, err)
		}
		of[at] = b
	}
	return of
}

// opened is Open of what may be.
func opened(t testing.TB, d *disk.Disk) *vault.Vault {
	t.Helper()
	v, err := vault.Open(d)
	if err != api.OK || v == nil {
		t.Fatalf("Open: error %d", err)
	}
	return v
}

// refuses holds what Open answers of what may not be.
func refuses(t testing.TB, d *disk.Disk, want api.Errno) {
	t.Helper()
	if v, err := vault.Open(d); err != want || v != nil {
		t.Errorf("Open: a vault %v, error %d; want error %d", v != nil, err, want)
	}
}

// add is an Add that is answered so.
func add(t testing.TB, v *vault.Vault, b []byte, want api.Errno) {
	t.Helper()
	if err := v.Add(b); err != want {
		t.Fatalf("Add of %d bytes: error %d, want %d", len(b), err, want)
	}
}

// adds is an Add of each that is OK.
func adds(t testing.TB, v *vault.Vault, l ...[]byte) {
	t.Helper()
	for _, b := range l {
		add(t, v, b, api.OK)
	}
}

// compact is a Compact that is answered so.
func compact(t testing.TB, v *vault.Vault, base []byte, want api.Errno) {
	t.Helper()
	if err := v.Compact(base); err != want {
		t.Fatalf("Compact to %d bytes: error %d, want %d", len(base), err, want)
	}
}

// has holds what a vault tells against a base and records that take as many sectors as they need.
func has(t testing.TB, v *vault.Vault, half int, base []byte, l ...[]byte) {
	t.Helper()
	if got := v.Base(); !bytes.Equal(got, base) {
		t.Errorf("the base has %d bytes, %.20x; want %d, %.20x", len(got), got, len(base), base)
	}
	if got := v.Records(); !same(got, l) {
		t.Errorf("%d records, %v; want %d, %v", len(got), lengths(got), len(l), lengths(l))
	}
	if got := v.Half(); got != half {
		t.Errorf("Half is %d, want %d", got, half)
	}
	if got, n := v.Used(), needs(based(base))+needs(l...); got != n {
		t.Errorf("Used is %d, want %d", got, n)
	}
}

// plain is a vault on sectors that no power goes of, word by word of the chapter.
type plain struct {
	of      []sector
	half    int
	epoch   uint64
	records [][]byte // number 0 is the base, behind its byte
}

func (p *plain) size() int { return len(p.of) / 2 }
func (p *plain) used() int { return needs(p.records...) }

// open is P9.1.
func (p *plain) open() api.Errno {
	if len(p.of) < 4 {
		return api.ErrArg
	}
	greatest := uint64(0)
	for _, b := range p.of {
		greatest = max(greatest, uint64(binary.BigEndian.Uint32(b[:4])), uint64(binary.BigEndian.Uint32(b[60:])))
	}
	if greatest == 1<<32-1 {
		return api.ErrFull
	}
	p.epoch = greatest + 1
	a, of := stand(p.of[:p.size()])
	b, than := stand(p.of[p.size() : 2*p.size()])
	switch {
	case len(a) == 0 && len(b) == 0:
		p.begin(0, nil)
	case len(b) == 0 || len(a) > 0 && of >= than:
		p.half, p.records = 0, a
	default:
		p.half, p.records = 1, b
	}
	return api.OK
}

// begin lays a base alone.
func (p *plain) begin(half int, base []byte) {
	p.half, p.records = half, [][]byte{based(base)}
	copy(p.of[half*p.size():], record(uint32(p.epoch), 0, p.records[0]))
}

// add is the first half of P9.2.
func (p *plain) add(b []byte) api.Errno {
	if len(b) == 0 || len(b) > api.MaxRecord {
		return api.ErrArg
	}
	if p.used()+needs(b) > p.size() {
		return api.ErrFull
	}
	copy(p.of[p.half*p.size()+p.used():], record(uint32(p.epoch), uint32(len(p.records)), b))
	p.records = append(p.records, b)
	return api.OK
}

// compact is the second one.
func (p *plain) compact(base []byte) api.Errno {
	if len(base) >= api.MaxRecord {
		return api.ErrArg
	}
	if p.epoch == 1<<32-1 || needs(based(base)) > p.size() {
		return api.ErrFull
	}
	p.epoch++
	p.begin(1-p.half, base)
	return api.OK
}

// stand is the records that stand in the sectors, and the Epoch of number 0, as chapter 8 says.
func stand(of []sector) ([][]byte, uint32) {
	var l [][]byte
	first, least := uint32(0), uint32(0)
	for {
		b, epoch, n := next(of, uint32(len(l)), least)
		if n == 0 {
			return l, first
		}
		if len(l) == 0 {
			first = epoch
		}
		l, least, of = append(l, b), epoch, of[n:]
	}
}

// next is the record of that number, of no Epoch below least, that the sectors begin with, and how many of them it takes: it tries each number of them.
func next(of []sector, number, least uint32) ([]byte, uint32, int) {
next:
	for n := 1; n <= len(of); n++ {
		var b []byte
		var epoch uint32
		for i := range n {
			l, is := leaf.Take(of[i])
			if i == 0 {
				epoch = l.Epoch
			}
			if !is || l.Number != number || l.Epoch != epoch || epoch < least || l.First != (i == 0) || l.Last != (i == n-1) {
				continue next
			}
			b = append(b, l.Data...)
		}
		return b, epoch, n
	}
	return nil, 0, 0
}

// alike holds a vault, and all that stands on its disk, against the plain one.
func alike(t testing.TB, v *vault.Vault, p *plain) {
	t.Helper()
	has(t, v, p.half, p.records[0][1:], p.records[1:]...)
	if got := all(t, v.Disk()); !slices.Equal(got, p.of) {
		t.Errorf("%x is there, want %x", got, p.of)
	}
}

// P9.1

func TestTheExample(t *testing.T) {
	for n := 4; n <= 11; n++ {
		d := made(t, n)
		v := opened(t, d)
		has(t, v, 0, nil)
		if v.Used() != 1 || v.Disk() != d {
			t.Errorf("of %d sectors: Used %d", n, v.Used())
		}
		want := append(record(1, 0, []byte{1}), make([]sector, n-1)...)
		if got := all(t, d); !slices.Equal(got, want) {
			t.Errorf("%x is there, want %x", got, want)
		}
	}
}

func TestWhatMayNotBeOpened(t *testing.T) {
	refuses(t, nil, api.ErrNil)
	refuses(t, &disk.Disk{}, api.ErrArg)
	for n := 1; n <= 3; n++ {
		refuses(t, made(t, n), api.ErrArg)
	}
	for _, n := range []int{4, 5, 9} {
		d := made(t, n)
		d.Crash(nil)
		refuses(t, d, api.ErrDown)
		d.Start()
		has(t, opened(t, d), 0, nil)
		d.Crash(nil)
		refuses(t, d, api.ErrDown) // also where there is a base
	}
}

// Power that an Arm has let go is off as well.
func TestPowerThatWasArmed(t *testing.T) {
	d := made(t, 4)
	d.Arm(1)
	d.Sync()
	refuses(t, d, api.ErrDown)
}

// Of several faults the one that is named first counts.
func TestRanksOfOpen(t *testing.T) {
	full := marked(math.MaxUint32, 0)
	for n := 1; n <= 3; n++ {
		d := on(t, slices.Repeat([]sector{full}, n)...)
		refuses(t, d, api.ErrArg)
		d.Crash(nil)
		refuses(t, d, api.ErrArg)
	}
	d := on(t, slices.Repeat([]sector{full}, 4)...)
	d.Crash(nil)
	refuses(t, d, api.ErrDown)
	d.Start()
	refuses(t, d, api.ErrFull)
}

// The greatest mark anywhere: no epoch is left. What stands there stays as it was.
func TestTheGreatestMark(t *testing.T) {
	for _, n := range []int{4, 5, 8, 9} {
		for at := range n {
			for _, b := range []sector{
				marked(math.MaxUint32, 0), marked(0, math.MaxUint32), marked(math.MaxUint32, math.MaxUint32), marked(7, math.MaxUint32), marked(math.MaxUint32, 7),
				record(math.MaxUint32, 0, []byte{1, 'a'})[0], record(math.MaxUint32, 3, data(46, 9))[0],
			} {
				d := made(t, n)
				lay(t, d, at, b)
				was := all(t, d)
				d.Arm(1)
				refuses(t, d, api.ErrFull)
				if d.Down() {
					t.Fatal("what is refused writes, or syncs")
				}
				if got := all(t, d); !slices.Equal(got, was) {
					t.Errorf("%x is there, want %x", got, was)
				}
			}
		}
	}
}

// The epoch is one more than the greatest mark, wherever that stands, and whether it is a leaf's or not.
func TestTheEpoch(t *testing.T) {
	for _, n := range []int{6, 7} {
		for at := range n {
			for _, mark := range []uint32{1, 2, 255, 256, 1<<31 - 1, 1 << 31, math.MaxUint32 - 1} {
				for _, b := range []sector{marked(mark, 0), marked(0, mark), marked(mark, mark-1), marked(mark-1, mark), record(mark, 5, data(9, 9))[0]} {
					d := made(t, n)
					lay(t, d, at, b)
					has(t, opened(t, d), 0, nil)
					if got, want := all(t, d)[0], record(mark+1, 0, []byte{1})[0]; got != want {
						t.Fatalf("with the mark %d in the sector %d of %d: %x is there, want %x", mark, at, n, got, want)
					}
				}
			}
		}
	}
}

// The one whose First is greater counts; of equal ones the first; where one has no record 0, the other.
func TestWhichHalfCounts(t *testing.T) {
	for _, row := range []struct {
		first, second uint32 // 0: no record
		want          int
	}{
		{1, 0, 0}, {0, 1, 1}, {9, 0, 0}, {0, 9, 1}, {1, 1, 0}, {9, 9, 0}, {9, 8, 0}, {8, 9, 1}, {1, 2, 1}, {2, 1, 0},
		{1<<31 - 1, 1 << 31, 1}, {1 << 31, 1<<31 - 1, 0}, {1, math.MaxUint32 - 1, 1}, {math.MaxUint32 - 1, 1, 0}, {255, 256, 1}, {256, 255, 0},
	} {
		var sides [2][]sector
		var bases [2][]byte
		for half, epoch := range []uint32{row.first, row.second} {
			bases[half] = data(50+half, byte(half))
			if epoch > 0 {
				sides[half] = records(epoch, 0, based(bases[half]), data(3, byte(half)))
			}
		}
		for _, odd := range [][]sector{nil, {{}}, {marked(math.MaxUint32-1, 0)}, record(math.MaxUint32-1, 0, []byte{1, 'x'})} {
			d := halves(t, 5, sides[0], sides[1], odd...)
			was := all(t, d)
			has(t, opened(t, d), row.want, bases[row.want], data(3, byte(row.want)))
			if got := all(t, d); !slices.Equal(got, was) {
				t.Errorf("of %d and %d: Open wrote", row.first, row.second)
			}
		}
	}
}

// The First of record 0 is asked, not the Epochs of those behind it, nor how many there are.
func TestRecordNoughtTells(t *testing.T) {
	long := slices.Concat(record(4, 0, based(data(3, 1))), record(8, 1, data(46, 2)), record(9, 2, data(46, 3)))
	short := record(5, 0, based(data(4, 4)))
	has(t, opened(t, halves(t, 5, long, short)), 1, data(4, 4))
	has(t, opened(t, halves(t, 5, short, long)), 0, data(4, 4))
	short = record(4, 0, based(data(4, 4)))
	has(t, opened(t, halves(t, 5, long, short)), 0, data(3, 1), data(46, 2), data(46, 3))
	has(t, opened(t, halves(t, 5, short, long)), 0, data(4, 4))
}

// A half whose record 0 is not whole has none, however great its Epoch.
func TestAHalfWithoutRecordNought(t *testing.T) {
	whole := records(9, 0, based(data(100, 1)), data(3, 2))
	elder := records(2, 0, based(data(5, 3)), data(46, 4))
	for at := range 3 {
		off := slices.Clone(whole)
		off[at][30] ^= 1
		has(t, opened(t, halves(t, 6, off, elder)), 1, data(5, 3), data(46, 4))
		has(t, opened(t, halves(t, 6, elder, off)), 0, data(5, 3), data(46, 4))
		has(t, opened(t, halves(t, 6, off, off)), 0, nil)
	}
	has(t, opened(t, halves(t, 6, whole, elder)), 0, data(100, 1), data(3, 2))
	has(t, opened(t, halves(t, 6, elder, whole)), 1, data(100, 1), data(3, 2))
}

// Where neither has one an empty base is begun in the first half; what stood there is passed over from then on.
func TestNeitherHasOne(t *testing.T) {
	rest := records(9, 1, list(46, 50, 1)...)
	for name, side := range map[string][]sector{
		"noughts":             nil,
		"records from 1 on":   append([]sector{{}}, rest...),
		"records of number 1": rest,
		"the end of a base":   records(9, 0, based(data(60, 1)), data(5, 2))[1:],
		"half a base":         record(9, 0, based(data(60, 1)))[:1],
		"a base further on":   append([]sector{{}}, record(9, 0, based(data(3, 1)))...),
		"other bytes":         {marked(3, 9)},
	} {
		t.Run(name, func(t *testing.T) {
			for _, d := range []*disk.Disk{halves(t, 6, side, nil), halves(t, 6, nil, side), halves(t, 6, side, side), halves(t, 6, side, side, marked(99, 3))} {
				want := all(t, d)
				epoch := uint32(1)
				for _, b := range want {
					epoch = max(epoch, leaf.Mark(b)+1)
				}
				copy(want, record(epoch, 0, []byte{1}))
				v := opened(t, d)
				has(t, v, 0, nil)
				if got := all(t, d); !slices.Equal(got, want) {
					t.Errorf("%x is there, want %x", got, want)
				}
				has(t, opened(t, d), 0, nil)
				adds(t, v, data(2, 7))
				has(t, opened(t, d), 0, nil, data(2, 7))
			}
		})
	}
}

// A record that would end in the other half, or behind both, is none of this one.
func TestWithinTheHalves(t *testing.T) {
	over := record(9, 0, based(data(46*3-1, 1)))
	d := on(t, append(over, make([]sector, 1)...)...) // three leaves from 0 on, in halves of two
	has(t, opened(t, d), 0, nil)
	d = on(t, append(make([]sector, 2), over...)...) // three leaves from 2 on, the last one in the odd sector
	has(t, opened(t, d), 0, nil)
	d = on(t, append(make([]sector, 3), over...)...) // in halves of three
	has(t, opened(t, d), 1, data(46*3-1, 1))
	d = on(t, append(make([]sector, 3), append(over, sector{})...)...)
	has(t, opened(t, d), 1, data(46*3-1, 1))
}

// The odd sector is in no half: nothing is read as a record there, nor written.
func TestTheOddSector(t *testing.T) {
	odd := record(6, 2, data(46, 5))[0]
	d := halves(t, 2, records(3, 0, based(nil), data(5, 1)), records(4, 0, based(nil), data(5, 2)), odd)
	v := opened(t, d)
	has(t, v, 1, nil, data(5, 2))
	add(t, v, []byte{1}, api.ErrFull)
	for i := range 4 {
		compact(t, v, data(92, 1), api.ErrFull)
		compact(t, v, data(91, byte(i)), api.OK)
		has(t, v, i%2, data(91, byte(i)))
	}
	if b := all(t, d)[4]; b != odd {
		t.Errorf("in the odd sector %x is there", b)
	}
}

// What stands ahead of a base's bytes is passed over, whatever byte it is; a record 0 of one byte is an empty base.
func TestTheByteAhead(t *testing.T) {
	for c := range 256 {
		has(t, opened(t, halves(t, 3, record(2, 0, []byte{byte(c)}), nil)), 0, nil)
		has(t, opened(t, halves(t, 3, nil, record(2, 0, []byte{byte(c), 'a', 0}))), 1, []byte{'a', 0})
	}
}

// Bases and records of all lengths, noughts at their ends and all.
func TestBasesOfAllLengths(t *testing.T) {
	for k := range 150 {
		for _, base := range [][]byte{data(k, 3), make([]byte, k), bytes.Repeat([]byte{1}, k)} {
			d := halves(t, 9, nil, records(7, 0, based(base), data(150-k, 4), []byte{0}))
			has(t, opened(t, d), 1, base, data(150-k, 4), []byte{0})
		}
	}
}

// Of what has a record 0 Open only reads: no call that is counted is made, and nothing that is loose is made sure.
func TestOpenOnlyReads(t *testing.T) {
	d := halves(t, 4, records(3, 0, based(data(60, 1)), data(3, 2)), record(2, 0, based(nil)))
	loose := sector{1, 2, 3}
	if err := d.Write(6, loose); err != api.OK {
		t.Fatal(err)
	}
	d.Arm(1)
	has(t, opened(t, d), 0, data(60, 1), data(3, 2))
	if d.Down() {
		t.Fatal("a call that is counted was made")
	}
	d.Crash(nil)
	d.Start()
	if b, _ := d.Read(6); b != (sector{}) {
		t.Errorf("what was loose was made sure: %x", b)
	}
}

// Of what has none it makes one Write and one Sync; power may go at either.
func TestPowerGoesWhileTheEmptyBaseIsAdded(t *testing.T) {
	for hit := 1; hit <= 2; hit++ {
		for _, n := range []int{4, 9} {
			d := made(t, n)
			d.Arm(hit)
			refuses(t, d, api.ErrDown)
			if !d.Down() {
				t.Fatalf("call %d was not made", hit)
			}
			refuses(t, d, api.ErrDown)
			d.Start()
			if got := all(t, d); !slices.Equal(got, make([]sector, n)) {
				t.Errorf("%x is there", got)
			}
			v := opened(t, d)
			has(t, v, 0, nil)
			adds(t, v, data(4, 1))
		}
	}
	d := made(t, 4)
	d.Arm(3)
	has(t, opened(t, d), 0, nil)
	if d.Down() {
		t.Error("more than two calls were made")
	}
	d.Crash(nil) // it was made sure
	d.Start()
	if got, want := all(t, d)[0], record(1, 0, []byte{1})[0]; got != want {
		t.Errorf("%x is there, want %x", got, want)
	}
}

func TestOfNil(t *testing.T) {
	var v *vault.Vault
	if v.Base() != nil || v.Records() != nil || v.Half() != 0 || v.Used() != 0 || v.Disk() != nil {
		t.Errorf("of nil: %v, %v, %d, %d, %v", v.Base(), v.Records(), v.Half(), v.Used(), v.Disk())
	}
	for _, n := range []int{0, 1, 46, api.MaxRecord - 1, api.MaxRecord, api.MaxRecord + 1} {
		add(t, v, make([]byte, n), api.ErrNil)
		compact(t, v, make([]byte, n), api.ErrNil)
	}
}

// R1: one that Open did not make has no disk, and no call panics.
func TestOfTheZeroValue(t *testing.T) {
	var v vault.Vault
	if v.Base() != nil || v.Records() != nil || v.Half() != 0 || v.Used() != 0 || v.Disk() != nil {
		t.Errorf("of the zero value: %v, %v, %d, %d, %v", v.Base(), v.Records(), v.Half(), v.Used(), v.Disk())
	}
	for _, n := range []int{0, 1, api.MaxRecord, api.MaxRecord + 1} {
		add(t, &v, make([]byte, n), api.ErrNil)
		compact(t, &v, make([]byte, n), api.ErrNil)
	}
}

// What is told without power is what was told with it.
func TestWhatIsToldWithoutPower(t *testing.T) {
	d := made(t, 9)
	v := opened(t, d)
	compact(t, v, data(50, 1), api.OK)
	adds(t, v, data(3, 2))
	d.Crash(nil)
	has(t, v, 1, data(50, 1), data(3, 2))
	add(t, v, data(3, 2), api.ErrDown)
	has(t, v, 1, data(50, 1), data(3, 2))
	if v.Disk() != d {
		t.Error("another disk")
	}
}

// P9.2

// Adds are the journal's, behind the base: each length, number and sector.
func TestAdd(t *testing.T) {
	for k := 1; k <= 150; k++ {
		around := slices.Repeat([]sector{marked(4, 3)}, 25)
		d := on(t, around...)
		v := opened(t, d)
		adds(t, v, data(47, 7), data(k, 8), data(1, 9))
		has(t, v, 0, nil, data(47, 7), data(k, 8), data(1, 9))
		want := slices.Clone(around)
		copy(want, records(5, 0, []byte{1}, data(47, 7), data(k, 8), data(1, 9)))
		if got := all(t, d); !slices.Equal(got, want) {
			t.Fatalf("behind %d bytes %x is there, want %x", k, got, want)
		}
		has(t, opened(t, d), 0, nil, data(47, 7), data(k, 8), data(1, 9))
	}
}

func TestWhatMayNotBeAdded(t *testing.T) {
	d := made(t, 9)
	v := opened(t, d)
	adds(t, v, data(47, 1))
	was := all(t, d)
	d.Arm(1)
	for _, b := range [][]byte{nil, {}, make([]byte, api.MaxRecord+1)} {
		add(t, v, b, api.ErrArg)
	}
	for _, n := range []int{47, 92, api.MaxRecord} {
		add(t, v, data(n, 1), api.ErrFull)
	}
	d.Arm(0)
	if got := all(t, d); !slices.Equal(got, was) || d.Down() {
		t.Error("what was refused was written, or synced")
	}
	has(t, v, 0, nil, data(47, 1))
	adds(t, v, data(46, 2)) // what was refused otherwise than by ErrDown holds nothing up
	has(t, v, 0, nil, data(47, 1), data(46, 2))
	add(t, v, data(1, 3), api.ErrFull)
	compact(t, v, data(1, 3), api.OK)
}

// Which sectors Compact writes, and of which epoch: those of the other half; what stood in this one stays.
func TestWhatCompactWrites(t *testing.T) {
	for k := range 150 {
		d := made(t, 13)
		v := opened(t, d)
		adds(t, v, data(50, 1))
		want := all(t, d)
		compact(t, v, data(k, 2), api.OK)
		has(t, v, 1, data(k, 2))
		copy(want[6:], record(2, 0, based(data(k, 2))))
		if got := all(t, d); !slices.Equal(got, want) {
			t.Fatalf("behind %d bytes %x is there, want %x", k, got, want)
		}
		adds(t, v, data(4, 3))
		copy(want[6+needs(based(data(k, 2))):], record(2, 1, data(4, 3)))
		compact(t, v, data(k/2, 4), api.OK)
		has(t, v, 0, data(k/2, 4))
		copy(want, record(3, 0, based(data(k/2, 4))))
		if got := all(t, d); !slices.Equal(got, want) {
			t.Fatalf("behind %d bytes more %x is there, want %x", k/2, got, want)
		}
		has(t, opened(t, d), 0, data(k/2, 4))
	}
}

// A Compact to nothing is to an empty base, with no records.
func TestCompactToNothing(t *testing.T) {
	for _, base := range [][]byte{nil, {}} {
		d := made(t, 4)
		v := opened(t, d)
		adds(t, v, data(46, 1))
		compact(t, v, base, api.OK)
		has(t, v, 1, nil)
		has(t, opened(t, d), 1, nil)
		adds(t, v, data(46, 2))
		has(t, opened(t, d), 1, nil, data(46, 2))
	}
}

// A half has just room for a base, or by one sector too little: its byte ahead counts.
func TestABaseThatFillsAHalf(t *testing.T) {
	for _, n := range []int{4, 5, 6, 7, 16, 17} {
		d := made(t, n)
		v := opened(t, d)
		adds(t, v, data(1, 1))
		room := 46*(n/2) - 1
		was := all(t, d)
		d.Arm(1)
		for _, k := range []int{room + 1, room + 2, room + 46, api.MaxRecord - 1} {
			compact(t, v, data(k, 2), api.ErrFull)
		}
		d.Arm(0)
		if got := all(t, d); !slices.Equal(got, was) || d.Down() {
			t.Error("what has no room was written, or synced")
		}
		has(t, v, 0, nil, data(1, 1))
		compact(t, v, data(room, 3), api.OK)
		has(t, v, 1, data(room, 3))
		add(t, v, data(1, 4), api.ErrFull)
		has(t, opened(t, d), 1, data(room, 3))
		compact(t, v, data(room-45, 5), api.OK)
		has(t, v, 0, data(room-45, 5))
		compact(t, v, data(room-46, 6), api.OK)
		adds(t, v, data(46, 7)) // one sector less leaves one
		add(t, v, data(1, 8), api.ErrFull)
		has(t, opened(t, d), 1, data(room-46, 6), data(46, 7))
	}
}

func TestTheGreatestBase(t *testing.T) {
	d := made(t, api.MaxSectors)
	v := opened(t, d)
	adds(t, v, data(2, 1))
	for _, n := range []int{api.MaxRecord, api.MaxRecord + 1, 2 * api.MaxRecord} {
		compact(t, v, make([]byte, n), api.ErrArg)
	}
	has(t, v, 0, nil, data(2, 1))
	compact(t, v, data(api.MaxRecord-1, 2), api.OK)
	has(t, v, 1, data(api.MaxRecord-1, 2))
	adds(t, v, data(1, 3))
	has(t, opened(t, d), 1, data(api.MaxRecord-1, 2), data(1, 3))
	d = made(t, 2*8_696-1)
	v = opened(t, d)
	compact(t, v, data(api.MaxRecord-1, 2), api.ErrFull)
	d = made(t, 2*8_696)
	v = opened(t, d)
	compact(t, v, data(api.MaxRecord-1, 2), api.OK)
	add(t, v, data(1, 3), api.ErrFull)
}

// ErrDown ahead of ErrArg ahead of ErrFull.
func TestRanksOfCompact(t *testing.T) {
	for _, epoch := range []uint32{1, math.MaxUint32} { // of the greatest one everything would be ErrFull
		d := made(t, 4)
		lay(t, d, 3, marked(epoch-1, 0))
		v := opened(t, d)
		compact(t, v, make([]byte, api.MaxRecord), api.ErrArg)
		compact(t, v, make([]byte, api.MaxRecord+1), api.ErrArg)
		compact(t, v, make([]byte, api.MaxRecord-1), api.ErrFull)
		d.Crash(nil)
		compact(t, v, make([]byte, api.MaxRecord), api.ErrDown)
		compact(t, v, make([]byte, api.MaxRecord-1), api.ErrDown)
		d.Start()
		compact(t, v, make([]byte, api.MaxRecord), api.ErrDown)
		compact(t, v, make([]byte, api.MaxRecord-1), api.ErrDown)
		compact(t, v, nil, api.ErrDown)
	}
}

// At the greatest epoch Adds go on, Compacts do not; opened anew there is no epoch left.
func TestTheGreatestEpoch(t *testing.T) {
	d := made(t, 9)
	lay(t, d, 8, marked(math.MaxUint32-2, 0))
	v := opened(t, d) // of the last epoch but one
	adds(t, v, data(3, 1))
	compact(t, v, data(50, 2), api.OK)
	has(t, v, 1, data(50, 2))
	was := all(t, d)
	d.Arm(1)
	for _, k := range []int{0, 1, 50, api.MaxRecord - 1} {
		compact(t, v, data(k, 3), api.ErrFull)
	}
	d.Arm(0)
	if got := all(t, d); !slices.Equal(got, was) || d.Down() {
		t.Error("what has no epoch was written, or synced")
	}
	has(t, v, 1, data(50, 2))
	adds(t, v, data(46, 4))
	has(t, v, 1, data(50, 2), data(46, 4))
	want := records(math.MaxUint32, 0, based(data(50, 2)), data(46, 4))
	if got := all(t, d)[4:7]; !slices.Equal(got, want) {
		t.Errorf("%x is there, want %x", got, want)
	}
	refuses(t, d, api.ErrFull)
	has(t, v, 1, data(50, 2), data(46, 4))
}

// Opened at the greatest epoch: what stands there is told, and gone on with.
func TestOpenedAtTheGreatestEpoch(t *testing.T) {
	d := halves(t, 4, records(8, 0, based(data(5, 1)), data(6, 2)), record(math.MaxUint32-1, 0, based(data(7, 3))))
	v := opened(t, d)
	has(t, v, 1, data(7, 3))
	compact(t, v, nil, api.ErrFull)
	has(t, opened(t, d), 1, data(7, 3)) // nothing was written of it: there is one left yet
	adds(t, v, data(8, 4))
	has(t, v, 1, data(7, 3), data(8, 4))
	refuses(t, d, api.ErrFull)
	d = halves(t, 4, nil, nil, marked(math.MaxUint32-1, 0))
	has(t, opened(t, d), 0, nil)
	refuses(t, d, api.ErrFull)
}

// downOn is a vault with a base of two leaves in the half 1, and a record, on a disk whose power goes at that call from now on.
func downOn(t testing.TB, hit int) (*disk.Disk, *vault.Vault) {
	t.Helper()
	d := made(t, 15)
	v := opened(t, d)
	adds(t, v, data(99, 9))
	compact(t, v, data(50, 1), api.OK)
	adds(t, v, data(46, 2))
	d.Arm(hit)
	return d, v
}

// Once a call told ErrDown, each one behind it does, power or not, right or not; what was there is there.
func TestBehindErrDown(t *testing.T) {
	for name, call := range map[string]func(v *vault.Vault) api.Errno{
		"Add":     func(v *vault.Vault) api.Errno { return v.Add(data(180, 3)) },     // four leaves and a Sync
		"Compact": func(v *vault.Vault) api.Errno { return v.Compact(data(180, 3)) }, // likewise
	} {
		for hit := 1; hit <= 5; hit++ {
			d, v := downOn(t, hit)
			for i, power := range []bool{false, true, true} {
				if i == 0 {
					if err := call(v); err != api.ErrDown {
						t.Fatalf("%s, hit %d: error %d", name, hit, err)
					}
				}
				if power {
					d.Start()
					d.Arm(1)
				}
				for _, n := range []int{1, 46, 0, api.MaxRecord - 1, api.MaxRecord, api.MaxRecord + 1} {
					add(t, v, make([]byte, n), api.ErrDown)
					compact(t, v, make([]byte, n), api.ErrDown)
				}
				if power && d.Down() {
					t.Errorf("%s, hit %d: a call behind ErrDown wrote, or synced", name, hit)
				}
				has(t, v, 1, data(50, 1), data(46, 2))
			}
			d.Arm(0)
			w := opened(t, d) // another one on that disk is not held up
			has(t, w, 1, data(50, 1), data(46, 2))
			adds(t, w, data(3, 4))
			compact(t, w, data(4, 5), api.OK)
			has(t, w, 0, data(4, 5))
			add(t, v, data(1, 3), api.ErrDown)
			has(t, v, 1, data(50, 1), data(46, 2))
		}
	}
}

// Also where power is back ahead of the very next call, of either kind.
func TestTheNextBehindErrDown(t *testing.T) {
	for hit := 1; hit <= 5; hit++ {
		for i := range 4 {
			d, v := downOn(t, hit)
			if i < 2 {
				add(t, v, data(180, 3), api.ErrDown)
			} else {
				compact(t, v, data(180, 3), api.ErrDown)
			}
			d.Start()
			if i%2 == 0 {
				add(t, v, data(1, 4), api.ErrDown)
			} else {
				compact(t, v, data(1, 4), api.ErrDown)
			}
			has(t, v, 1, data(50, 1), data(46, 2))
			has(t, opened(t, d), 1, data(50, 1), data(46, 2))
		}
	}
}

// A call that finds power off told ErrDown too, although it wrote nothing.
func TestWithoutPower(t *testing.T) {
	for _, n := range []int{0, 1, 100, api.MaxRecord - 1, api.MaxRecord, api.MaxRecord + 1} {
		for i := range 2 {
			d, v := downOn(t, 0)
			d.Crash(nil)
			if i == 0 {
				add(t, v, make([]byte, n), api.ErrDown)
			} else {
				compact(t, v, make([]byte, n), api.ErrDown)
			}
			d.Start()
			add(t, v, data(1, 4), api.ErrDown)
			compact(t, v, data(1, 4), api.ErrDown)
			has(t, v, 1, data(50, 1), data(46, 2))
		}
	}
}

// Power that went and came between two calls, neither of which it met: what was told was sure.
func TestPowerThatNoCallMet(t *testing.T) {
	d, v := downOn(t, 0)
	for range 2 {
		d.Crash(nil)
		d.Start()
		adds(t, v, data(4, 4))
		d.Crash(nil)
		d.Start()
		compact(t, v, data(5, 5), api.OK)
	}
	has(t, v, 1, data(5, 5))
	has(t, opened(t, d), 1, data(5, 5))
}

// Compact behind Compact, with and without records between, opened anew between or not: over all that stands of elder ones.
func TestCompactBehindCompact(t *testing.T) {
	for _, anew := range []bool{false, true} {
		d := made(t, 15)
		v := opened(t, d)
		for i := range 600 { // the epochs go over 255 and 256
			base := data(i*37%320, byte(i))
			compact(t, v, base, api.OK)
			var l [][]byte
			for k := range i % 4 {
				b := data(1+i*k%60, byte(i+k))
				if v.Used()+needs(b) <= 7 {
					adds(t, v, b)
					l = append(l, b)
				}
			}
			has(t, v, (i+1)%2, base, l...)
			if anew {
				v = opened(t, d)
			}
			has(t, opened(t, d), (i+1)%2, base, l...)
		}
	}
}

// Behind a Compact over elder records none of them is told, also where they would go on with the next number.
func TestElderRecordsBehindABase(t *testing.T) {
	for k := range 6 {
		elder := records(4, 0, slices.Insert(slices.Repeat([][]byte{data(46, 9)}, 6), 0, based(data(46*k, 1)))...)
		for half := range 2 {
			sides := [2][]sector{elder, elder}
			sides[1-half] = record(5, 0, based(nil))
			d := halves(t, 13, sides[0], sides[1])
			v := opened(t, d)
			has(t, v, 1-half, nil)
			compact(t, v, data(46*k, 2), api.OK)
			has(t, opened(t, d), half, data(46*k, 2))
			adds(t, v, data(46, 3))
			has(t, opened(t, d), half, data(46*k, 2), data(46, 3))
		}
	}
}

// ground is sectors of which some may be those of a vault.
func ground(r *rand.Rand) []sector {
	of := make([]sector, r.Intn(18))
	for half := range 2 {
		from := half * (len(of) / 2)
		epoch := uint32(1 + r.Intn(4))
		if r.Intn(30) == 0 {
			epoch = math.MaxUint32 - uint32(1+r.Intn(4))
		}
		number := uint32(r.Intn(6) / 5)
		for at := from; at < len(of) && r.Intn(6) > 0; {
			b := make([]byte, 1+r.Intn(100))
			r.Read(b)
			at += copy(of[at:], record(epoch, number, b))
			number++
			if r.Intn(2) == 0 {
				epoch += min(uint32(r.Intn(3)), math.MaxUint32-epoch)
			}
		}
	}
	if len(of) > 0 && r.Intn(3) == 0 {
		of[r.Intn(len(of))][r.Intn(64)] ^= 1 << r.Intn(8)
	}
	if len(of) > 0 && r.Intn(5) == 0 {
		r.Read(of[r.Intn(len(of))][:])
	}
	return of
}

// Any ground, any calls: all that is told, and all that stands on the disk behind each, is what the chapter says.
func TestAnyPlay(t *testing.T) {
	r := rand.New(rand.NewSource(91))
	told := map[string]int{}
	for range 6_000 {
		p := &plain{of: ground(r)}
		if len(p.of) == 0 {
			continue
		}
		d := on(t, p.of...)
		v, err := vault.Open(d)
		want := p.open()
		if err != want || (v != nil) != (want == api.OK) {
			t.Fatalf("Open: error %d, want %d", err, want)
		}
		told[fmt.Sprint("Open ", err)]++
		for range 14 {
			if v == nil {
				break
			}
			alike(t, v, p)
			b := make([]byte, r.Intn(46*(p.size()+1)))
			if r.Intn(20) == 0 {
				b = make([]byte, api.MaxRecord-1+r.Intn(3))
			}
			r.Read(b)
			name := ""
			switch r.Intn(8) {
			case 0:
				name = "Open "
				if v, err = vault.Open(d); v == nil != (err != api.OK) {
					t.Fatalf("Open: a vault %v, error %d", v != nil, err)
				}
				want = p.open()
			case 1, 2:
				name, err, want = "Compact ", v.Compact(b), p.compact(b)
			default:
				b = b[:min(len(b), 1+r.Intn(100))]
				name, err, want = "Add ", v.Add(b), p.add(b)
			}
			if err != want {
				t.Fatalf("%sof %d bytes: error %d, want %d", name, len(b), err, want)
			}
			told[fmt.Sprint(name, err)]++
		}
		if t.Failed() {
			return
		}
	}
	for _, name := range []string{"Open 0", "Open 2", "Open 6", "Add 0", "Add 2", "Add 6", "Compact 0", "Compact 2", "Compact 6"} {
		if told[name] < 40 {
			t.Errorf("%s was told %d times", name, told[name])
		}
	}
}

// P9.3

// found is a base and the records behind it.
type found struct {
	base    []byte
	records [][]byte
}

// is tells whether v has them.
func (f found) is(v *vault.Vault) bool {
	return bytes.Equal(v.Base(), f.base) && same(v.Records(), f.records) && v.Used() == needs(based(f.base))+needs(f.records...)
}

// String is how many bytes they have.
func (f found) String() string { return fmt.Sprint(len(f.base), " behind it ", lengths(f.records)) }

// behind is a vault, opened on a disk behind a crash, that has either; opened again it has the same. It tells whether that is the latter.
func behind(t testing.TB, d *disk.Disk, was, under found, what string) (*vault.Vault, bool) {
	t.Helper()
	v := opened(t, d)
	there := !was.is(v)
	if there {
		was = under
	}
	if !was.is(v) {
		t.Fatalf("%s: %v is there; %v was sure, %v was under way", what, found{v.Base(), v.Records()}, was, under)
	}
	if w := opened(t, d); !was.is(w) || w.Half() != v.Half() {
		t.Fatalf("%s: opened again %v is there, ahead it was %v", what, found{w.Base(), w.Records()}, was)
	}
	return opened(t, d), there
}

// goesOn adds and compacts on a vault behind a crash, as far as there is room, and opens it anew each time.
func goesOn(t testing.TB, d *disk.Disk, v *vault.Vault, what string) {
	t.Helper()
	now := found{v.Base(), v.Records()}
	for i := range 3 {
		for _, b := range [][]byte{data(30, 0xee), data(60, 0xdd), data(46, 0xcc)} {
			err := v.Add(b)
			if err == api.OK {
				now.records = append(now.records, b)
			} else if err != api.ErrFull {
				t.Fatalf("%s: Add: error %d", what, err)
			}
			behind(t, d, now, now, what)
		}
		v = opened(t, d)
		now = found{base: data(60+i, byte(0xa0+i))}
		compact(t, v, now.base, api.OK)
		behind(t, d, now, now, what)
	}
}

// keeps are how much of the loose sectors stays: nothing, a part, all, and each in turn.
func keeps() [][]int {
	return [][]int{nil, {0}, {1}, {2}, {3}, {4}, {5}, {10}, {32}, {56}, {60}, {61}, {62}, {63}, {64}, {0, 64}, {64, 0}, {64, 64, 0}, {0, 0, 64}, {64, 33, 64}, {63, 64}, {64, 63}, {-7, 99}}
}

// grounds are disks with one base and records that count, in either half, and what stood beside and behind them, or nothing; the epochs are just ahead of where one more byte of them turns.
func grounds(t testing.TB, sure found, size int) map[string]*disk.Disk {
	t.Helper()
	of := map[string]*disk.Disk{}
	for _, epoch := range []uint32{6, 0xff, 0xffff, 0xfffffe} {
		standing := append(record(epoch-1, 0, based(sure.base)), records(epoch, 1, sure.records...)...)
		number := uint32(1 + len(sure.records))
		rest := size - len(standing)
		for name, beside := range map[string][]sector{
			"nothing":                nil,
			"an elder base":          record(epoch-2, 0, based(data(46*size-1, 0x31))),
			"an elder base, records": records(epoch-2, 0, append([][]byte{based(nil)}, slices.Repeat([][]byte{data(46, 0x32)}, size-1)...)...),
			"half of one under way":  record(epoch, 0, based(data(46*(size+1), 0x33)))[:size],
			"the end of one":         record(epoch, 0, based(data(46*size, 0x34)))[1 : 1+size],
			"records without a base": append([]sector{{}}, records(epoch, 1, slices.Repeat([][]byte{data(46, 0x35)}, size-1)...)...),
			"a base of that Epoch":   record(epoch-1, 0, based(data(3, 0x36)))[:1],
		} {
			for trail, behind := range map[string][]sector{
				"noughts":       make([]sector, rest),
				"elder ones":    slices.Repeat(record(epoch-2, number, data(1, 0x44)), rest),
				"half of one":   record(epoch, number, data(46*(rest+1), 0x66))[:rest],
				"ends of some":  slices.Repeat(record(epoch, number, data(47, 0x68))[1:], rest),
				"later numbers": slices.Repeat(record(epoch, number+1, data(46, 0x77)), rest),
			} {
				if name != "nothing" && trail != "noughts" { // one of both alone tells
					continue
				}
				it := append(slices.Clone(standing), behind...)
				what := fmt.Sprintf("epoch %x, beside it %s, behind it %s", epoch, name, trail)
				of[what+", half 0"] = halves(t, size, it, beside, sector{})
				if name != "a base of that Epoch" { // of equal ones the first half counts
					of[what+", half 1"] = halves(t, size, beside, it)
				}
			}
		}
	}
	return of
}

// deed is a call behind what was sure, which writes those sectors from that one on.
type deed struct {
	do         func(v *vault.Vault) api.Errno
	was, under found
	at         int
	leaves     []sector
}

// adding is an Add of b, on a disk where that is sure, and that was the half, and the epoch.
func adding(sure found, b []byte, half, size int, epoch uint32) deed {
	number := uint32(1 + len(sure.records))
	return deed{
		do:     func(v *vault.Vault) api.Errno { return v.Add(b) },
		was:    sure,
		under:  found{sure.base, append(slices.Clone(sure.records), b)},
		at:     half*size + needs(based(sure.base)) + needs(sure.records...),
		leaves: record(epoch, number, b),
	}
}

// compacting is a Compact, likewise.
func compacting(sure found, base []byte, half, size int, epoch uint32) deed {
	return deed{
		do:     func(v *vault.Vault) api.Errno { return v.Compact(base) },
		was:    sure,
		under:  found{base: base},
		at:     (1 - half) * size,
		leaves: record(epoch+1, 0, based(base)),
	}
}

// crashed opens a vault on d, does that, with power going at that call of it, crashes with those keeps, and holds what is found then against both that may be: what was under way is there just where all its leaves are.
func crashed(t testing.TB, d *disk.Disk, a deed, hit int, keep []int, what string) *vault.Vault {
	t.Helper()
	what = fmt.Sprintf("%s, hit %d, keep %v", what, hit, keep)
	v := opened(t, d)
	d.Arm(hit)
	n := len(a.leaves)
	err, want := a.do(v), api.ErrDown
	if hit < 1 || hit > n+1 {
		want = api.OK
	}
	if err != want {
		t.Fatalf("%s: error %d, want %d", what, err, want)
	}
	d.Crash(keep)
	d.Start()
	w, there := behind(t, d, a.was, a.under, what)
	if err == api.OK && !there {
		t.Fatalf("%s: what was told is gone", what)
	}
	if all := slices.Equal(all(t, d)[a.at:a.at+n], a.leaves); there != all {
		t.Fatalf("%s: there %v; its leaves are there %v", what, there, all)
	}
	return w
}

// top is the greatest mark that a sector of d has.
func top(t testing.TB, d *disk.Disk) uint32 {
	t.Helper()
	greatest := uint32(0)
	for _, b := range all(t, d) {
		greatest = max(greatest, leaf.Mark(b))
	}
	return greatest
}

// A crash at each call of an Add and of a Compact, of some lengths, on all grounds, with all keeps.
func TestACrashAtEachCall(t *testing.T) {
	const size = 7
	sure := found{data(50, 1), list(47, 3)}
	for name, ground := range grounds(t, sure, size) {
		half, epoch := opened(t, ground).Half(), top(t, ground)+1
		for i, k := range []int{1, 46, 47, 2 * 46, 0, 45, 46, 46*size - 1} {
			a := adding(sure, data(k, 0x99), half, size, epoch)
			if i >= 4 {
				a = compacting(sure, data(k, 0x99), half, size, epoch)
			}
			for hit := range len(a.leaves) + 3 { // 0: none is
				for turn, keep := range keeps() {
					d := ground.Fork()
					what := fmt.Sprintf("%s, %d bytes, the deed %d", name, k, i)
					v := crashed(t, d, a, hit, keep, what)
					if i%4 == 2 && turn%5 == hit { // of some alone: it takes its time
						goesOn(t, d, v, what)
					}
				}
			}
		}
	}
}

// A crash at each call of an Open that begins an empty base, over whatever stands there: an empty base is there behind it.
func TestACrashOfOpen(t *testing.T) {
	rest := records(0xff, 1, list(46, 50, 1)...)
	for name, side := range map[string][]sector{
		"noughts":             nil,
		"records from 1 on":   append([]sector{{}}, rest...),
		"records of number 1": rest,
		"the end of a base":   records(0xff, 0, based(data(60, 1)), data(5, 2))[1:],
		"half a base":         record(0xff, 0, based(data(60, 1)))[:1],
		"other bytes":         {marked(0xfffe, 0xffff)},
	} {
		for hit := range 4 {
			for _, keep := range keeps() {
				for _, d := range []*disk.Disk{halves(t, 5, side, nil), halves(t, 5, nil, side, sector{}), halves(t, 5, side, side)} {
					d.Arm(hit)
					if v, err := vault.Open(d); (err == api.OK) != (hit < 1 || hit > 2) || (err == api.ErrDown) != (v == nil) {
						t.Fatalf("%s, hit %d: error %d", name, hit, err)
					}
					d.Crash(keep)
					d.Start()
					what := fmt.Sprintf("%s, hit %d, keep %v", name, hit, keep)
					v, _ := behind(t, d, found{}, found{}, what)
					if v.Half() != 0 {
						t.Fatalf("%s: the half %d counts", what, v.Half())
					}
					goesOn(t, d, v, what)
				}
			}
		}
	}
}

// Each two lengths of what stays of two loose sectors, of a Compact over an elder base of two leaves, and of an Add.
func TestEachCutOfTwoLeaves(t *testing.T) {
	sure := found{data(80, 1), list(46)}
	next := data(80, 0x99)
	for _, epoch := range []uint32{9, 0xff, 0xffff, 0xffffff} { // the epoch is one more, so 0, 1, 2, 3 bytes turn with it
		elder := record(epoch-3, 0, based(data(80, 0x55)))
		ground := halves(t, 6, elder, append(record(epoch-1, 0, based(sure.base)), record(epoch, 1, sure.records[0])...))
		for i := range 65 {
			for k := range 65 {
				what := fmt.Sprintf("epoch %x", epoch)
				crashed(t, ground.Fork(), compacting(sure, next, 1, 6, epoch+1), 3, []int{i, k}, what)
				crashed(t, ground.Fork(), adding(sure, next, 1, 6, epoch+1), 3, []int{i, k}, what)
			}
		}
	}
}

// Crash behind crash, each at any call of any of the three and with any keeps, on one disk: what was sure stays, and at most what was under way comes to it.
func TestCrashBehindCrash(t *testing.T) {
	r := rand.New(rand.NewSource(93))
	came, gone := map[string]int{}, map[string]int{}
	keep := func() []int {
		return []int{r.Intn(65), 64, r.Intn(5), 60 + r.Intn(5), r.Intn(3) * 32, 64}[r.Intn(6):]
	}
	for range 1_200 {
		d := made(t, 4+r.Intn(20))
		lay(t, d, d.Len()-1, marked([]uint32{0, 5, 250, 0xfffd, 0xfffff0}[r.Intn(5)], 0))
		size := d.Len() / 2
		var now found
		for range 9 {
			for d.Arm(r.Intn(3)); r.Intn(3) == 0; d.Arm(r.Intn(3)) { // power may go of an Open as well, again and again
				vault.Open(d)
				d.Crash(keep())
				d.Start()
			}
			d.Arm(0)
			v := opened(t, d)
			d.Arm(r.Intn(12))
			under, name := now, ""
			for err := api.OK; err != api.ErrDown && r.Intn(6) > 0; {
				b := data(1+r.Intn(46*size+50), byte(r.Intn(256)))
				if r.Intn(3) > 0 {
					b = b[:min(len(b), 1+r.Intn(100))]
					under, name, err = found{now.base, append(slices.Clone(now.records), b)}, "Add", v.Add(b)
				} else {
					under, name, err = found{base: b}, "Compact", v.Compact(b)
				}
				switch err {
				case api.OK:
					now = under
				case api.ErrFull:
					under = now
				}
			}
			d.Crash(keep())
			d.Start()
			w, there := behind(t, d, now, under, name)
			if there {
				came[name]++
			} else if len(under.base) != len(now.base) || len(under.records) != len(now.records) {
				gone[name]++
			}
			now = found{w.Base(), w.Records()}
		}
	}
	for _, name := range []string{"Add", "Compact"} {
		if came[name] < 100 || gone[name] < 100 {
			t.Errorf("of each %s under way %d came, %d went", name, came[name], gone[name])
		}
	}
}

// Power that comes back without a crash: what was loose is gone.
func TestStartWithoutACrash(t *testing.T) {
	for hit := 1; hit <= 5; hit++ {
		for i := range 2 {
			d, v := downOn(t, hit)
			if i == 0 {
				add(t, v, data(180, 3), api.ErrDown)
			} else {
				compact(t, v, data(180, 3), api.ErrDown)
			}
			d.Start()
			has(t, opened(t, d), 1, data(50, 1), data(46, 2))
		}
	}
}

// What was told OK is sure, without a call more.
func TestWhatIsToldIsSure(t *testing.T) {
	d := made(t, 13)
	check := func(half int, base []byte, l ...[]byte) {
		t.Helper()
		f := d.Fork()
		f.Crash(nil)
		f.Start()
		has(t, opened(t, f), half, base, l...)
	}
	v := opened(t, d)
	if b := all(t, d)[0]; b == (sector{}) {
		t.Error("no base is there")
	}
	check(0, nil)
	adds(t, v, data(50, 1))
	check(0, nil, data(50, 1))
	compact(t, v, data(99, 2), api.OK)
	check(1, data(99, 2))
	adds(t, v, data(1, 3))
	check(1, data(99, 2), data(1, 3))
	compact(t, v, data(46*6-1, 4), api.OK)
	check(0, data(46*6-1, 4))
}

// R3 and R2

// What is handed in is not changed, with the room behind its end, and not kept.
func TestWhatIsHandedInIsNotKept(t *testing.T) {
	for _, k := range []int{0, 1, 45, 46, 47, 100} {
		room := data(200, 1)
		d := made(t, 20)
		v := opened(t, d)
		compact(t, v, room[:k], api.OK)
		adds(t, v, room[:k+1])
		if !bytes.Equal(room, data(200, 1)) {
			t.Fatalf("behind %d bytes there is %x", k, room)
		}
		for i := range room {
			room[i] = 0xee
		}
		has(t, v, 1, data(200, 1)[:k], data(200, 1)[:k+1])
		has(t, opened(t, d), 1, data(200, 1)[:k], data(200, 1)[:k+1])
		compact(t, v, room[:k], api.OK) // the same memory once more
		for i := range room {
			room[i] = 0xdd
		}
		has(t, v, 0, bytes.Repeat([]byte{0xee}, k))
		has(t, opened(t, d), 0, bytes.Repeat([]byte{0xee}, k))
	}
}

// wreck writes into all of b, and the room behind its end.
func wreck(b []byte) {
	b = b[:cap(b)]
	for i := range b {
		b[i] = 0xee
	}
}

// What is handed out is new: who writes to it, the room behind it too, changes nothing else.
func TestWhatIsHandedOutIsNew(t *testing.T) {
	base, want := data(70, 1), list(46, 47, 1, 100)
	d := made(t, 30)
	v := opened(t, d)
	compact(t, v, base, api.OK)
	adds(t, v, want...)
	f := d.Fork()
	for d, v := range map[*disk.Disk]*vault.Vault{d: v, f: opened(t, f)} { // what was added, and what was found
		got, other, b := v.Records(), v.Records(), v.Base()
		wreck(v.Base())
		if !bytes.Equal(b, base) || !same(got, want) {
			t.Fatal("with the base another thing was written")
		}
		for i, b := range got {
			wreck(b)
			if !same(other, want) || !same(got[i+1:], want[i+1:]) {
				t.Fatalf("with the record %d others were written", i)
			}
			got[i] = append(b, 1, 2, 3)
		}
		got = append(got[:2], nil)
		if _ = append(got[:cap(got)], nil); !same(other, want) || !bytes.Equal(b, base) {
			t.Error("with the list another thing was written")
		}
		has(t, v, 1, base, want...)
		has(t, opened(t, d), 1, base, want...)
		adds(t, v, data(2, 9))
		compact(t, v, data(3, 8), api.OK)
		if !same(other, want) || !bytes.Equal(b, base) {
			t.Error("with a call what was handed out is another")
		}
		has(t, v, 0, data(3, 8))
	}
}

// The disk that is handed out is the one that was handed in, and a fork of it goes its own way.
func TestTheDisk(t *testing.T) {
	d := made(t, 8)
	v := opened(t, d)
	f := d.Fork()
	w := opened(t, f)
	adds(t, v, data(3, 1))
	compact(t, w, data(4, 2), api.OK)
	has(t, v, 0, nil, data(3, 1))
	has(t, w, 1, data(4, 2))
	if v.Disk() != d || w.Disk() != f {
		t.Error("another disk")
	}
	has(t, opened(t, v.Disk()), 0, nil, data(3, 1))
	has(t, opened(t, w.Disk()), 1, data(4, 2))
}

// Vaults on disks of their own, at the same time.
func TestBesideEachOther(t *testing.T) {
	ground := halves(t, 8, records(3, 0, based(data(9, 1)), data(99, 2)), nil)
	faults := make([]string, 50)
	var done sync.WaitGroup
	for i := range faults {
		d := ground.Fork()
		done.Go(func() {
			v, _ := vault.Open(d)
			v.Add(data(60+i, byte(i)))
			w, _ := vault.Open(d)
			if l := [][]byte{data(99, 2), data(60+i, byte(i))}; !same(w.Records(), l) || !same(v.Records(), l) {
				faults[i] = fmt.Sprint(lengths(w.Records()), lengths(v.Records()))
			}
			w.Compact(data(i, byte(i)))
			if v, _ := vault.Open(d); !bytes.Equal(v.Base(), data(i, byte(i))) || v.Half() != 1 {
				faults[i] = fmt.Sprint(len(v.Base()), v.Half())
			}
		})
	}
	done.Wait()
	for i, fault := range faults {
		if fault != "" {
			t.Errorf("the vault %d beside others: %s", i, fault)
		}
	}
}

func BenchmarkOpen(b *testing.B) {
	d := made(b, api.MaxSectors)
	v := opened(b, d)
	compact(b, v, data(api.MaxRecord-1, 1), api.OK)
	for b.Loop() {
		opened(b, d)
	}
}
