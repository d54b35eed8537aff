package journal_test

import (
	"bytes"
	"fmt"
	"math"
	"math/rand"
	"slices"
	"sync"
	"testing"

	"haberdash/api"
	"haberdash/disk"
	"haberdash/journal"
	"haberdash/leaf"
)

type sector = [64]byte

// data is n bytes that tell which record they are of, and where in it they stand.
func data(n int, of byte) []byte {
	b := make([]byte, n)
	for i := range b {
		b[i] = of + byte(i*7) + byte(i/46)
	}
	return b
}

// list is the bytes of records of those lengths.
func list(lengths ...int) [][]byte {
	var of [][]byte
	for i, n := range lengths {
		of = append(of, data(n, byte(i+1)))
	}
	return of
}

// needs is how many leaves a record has, counted 46 by 46.
func needs(b []byte) int {
	n := 0
	for ; len(b) > 0; n++ {
		b = b[min(46, len(b)):]
	}
	return n
}

// needsAll is how many leaves records have together.
func needsAll(l [][]byte) int {
	n := 0
	for _, b := range l {
		n += needs(b)
	}
	return n
}

// same holds records against each other.
func same(a, b [][]byte) bool { return slices.EqualFunc(a, b, bytes.Equal) }

// laid is the bytes of a leaf that may be laid.
func laid(t testing.TB, l api.Leaf) sector {
	t.Helper()
	b, err := leaf.Lay(l)
	if err != api.OK {
		t.Fatalf("Lay(%v): error %d", l, err)
	}
	return b
}

// record is the sectors of a record, word by word of the chapter.
func record(t testing.TB, epoch, number uint32, b []byte) []sector {
	t.Helper()
	var of []sector
	for at := 0; at < len(b); at += 46 {
		end := min(at+46, len(b))
		of = append(of, laid(t, api.Leaf{Epoch: epoch, Number: number, First: at == 0, Last: end == len(b), Data: b[at:end]}))
	}
	return of
}

// records is the sectors of records of one epoch, from that number on.
func records(t testing.TB, epoch, number uint32, l ...[]byte) []sector {
	t.Helper()
	var of []sector
	for i, b := range l {
		of = append(of, record(t, epoch, number+uint32(i), b)...)
	}
	return of
}

// made is a disk of n sectors.
func made(t testing.TB, n int) *disk.Disk {
	t.Helper()
	d, err := disk.New(n)
	if err != api.OK {
		t.Fatalf("a disk of %d: error %d", n, err)
	}
	return d
}

// lay writes sectors from that one on, and makes them sure.
func lay(t testing.TB, d *disk.Disk, at int, of []sector) {
	t.Helper()
	for i, b := range of {
		if err := d.Write(at+i, b); err != api.OK {
			t.Fatalf("Write(%d): error %d", at+i, err)
		}
	}
	if err := d.Sync(); err != api.OK {
		t.Fatalf("Sync: error %d", err)
	}
}

// on is a disk of just those sectors.
func on(t testing.TB, of []sector) *disk.Disk {
	t.Helper()
	d := made(t, len(of))
	lay(t, d, 0, of)
	return d
}

// all is what stands in all sectors.
func all(t testing.TB, d *disk.Disk) []sector {
	t.Helper()
	of := make([]sector, d.Len())
	for at := range of {
		b, err := d.Read(at)
		if err != api.OK {
			t.Fatalf("Read(%d): error %d", at, err)
		}
		of[at] = b
	}
	return of
}

// fresh is New of what may be.
func fresh(t testing.TB, d *disk.Disk, from, n int, epoch uint32) *journal.Journal {
	t.Helper()
	j, err := journal.New(d, from, n, epoch)
	if err != api.OK || j == nil {
		t.Fatalf("New(%d, %d, %d): error %d", from, n, epoch, err)
	}
	return j
}

// opened is Open of what may be.
func opened(t testing.TB, d *disk.Disk, from, n int, epoch uint32) *journal.Journal {
	t.Helper()
	j, err := journal.Open(d, from, n, epoch)
	if err != api.OK || j == nil {
		t.Fatalf("Open(%d, %d, %d): error %d", from, n, epoch, err)
	}
	return j
}

// add is an Add that is answered so.
func add(t testing.TB, j *journal.Journal, b []byte, want api.Errno) {
	t.Helper()
	if err := j.Add(b); err != want {
		t.Fatalf("Add of %d bytes: error %d, want %d", len(b), err, want)
	}
}

// adds is an Add of each that is OK.
func adds(t testing.TB, j *journal.Journal, l ...[]byte) {
	t.Helper()
	for _, b := range l {
		add(t, j, b, api.OK)
	}
}

// has holds what a journal tells against records that take as many sectors as they need.
func has(t testing.TB, j *journal.Journal, first uint32, want ...[]byte) {
	t.Helper()
	if got := j.Records(); !same(got, want) {
		t.Errorf("%d records, %v; want %d, %v", len(got), lengths(got), len(want), lengths(want))
	}
	if got := j.First(); got != first {
		t.Errorf("First is %d, want %d", got, first)
	}
	if got, n := j.Used(), needsAll(want); got != n {
		t.Errorf("Used is %d, want %d", got, n)
	}
}

// lengths is how many bytes each of them has.
func lengths(l [][]byte) []int {
	of := make([]int, len(l))
	for i, b := range l {
		of[i] = len(b)
	}
	return of
}

// plain is the records that stand in the sectors, and the Epoch of number 0, word by word of the chapter.
func plain(of []sector) ([][]byte, uint32) {
	var l [][]byte
	first, least := uint32(0), uint32(0)
	for {
		b, epoch, n := plainNext(of, uint32(len(l)), least)
		if n == 0 {
			return l, first
		}
		if len(l) == 0 {
			first = epoch
		}
		l, least, of = append(l, b), epoch, of[n:]
	}
}

// plainNext is the record of that number, of no Epoch below least, that the sectors begin with, and how many of them it takes: it tries each number of them.
func plainNext(of []sector, number, least uint32) ([]byte, uint32, int) {
next:
	for n := 1; n <= len(of); n++ {
		var b []byte
		var epoch uint32
		for i := range n {
			l, is := leaf.Take(of[i])
			if i == 0 {
				epoch = l.Epoch
			}
			if !is || l.Number != number || l.Epoch != epoch || epoch < least || l.First != (i == 0) || l.Last != (i == n-1) {
				continue next
			}
			b = append(b, l.Data...)
		}
		return b, epoch, n
	}
	return nil, 0, 0
}

// stands holds Open of all the sectors against plain, and against want.
func stands(t testing.TB, of []sector, want ...[]byte) {
	t.Helper()
	l, first := plain(of)
	if !same(l, want) {
		t.Fatalf("by the chapter %v stand there; the test says %v", lengths(l), lengths(want))
	}
	has(t, opened(t, on(t, of), 0, len(of), math.MaxUint32), first, want...)
}

// P8.1

func TestTheExample(t *testing.T) {
	j := fresh(t, made(t, 3), 0, 3, 1)
	adds(t, j, data(46, 1))
	has(t, j, 1, data(46, 1))
	if j.Used() != 1 {
		t.Errorf("behind 46 bytes Used is %d", j.Used())
	}
	adds(t, j, data(47, 2))
	if j.Used() != 3 {
		t.Errorf("behind 46 and 47 bytes Used is %d", j.Used())
	}
}

func TestNeed(t *testing.T) {
	for _, row := range [][2]int{
		{math.MinInt, 0}, {-api.MaxRecord, 0}, {-46, 0}, {-1, 0}, {0, 0},
		{1, 1}, {45, 1}, {46, 1}, {47, 2}, {91, 2}, {92, 2}, {93, 3}, {138, 3}, {139, 4},
		{api.MaxRecord - 1, 8696}, {api.MaxRecord, 8696}, {8696 * 46, 8696}, {8696*46 + 1, 8697},
		{math.MaxInt - 1, (math.MaxInt-2)/46 + 1}, {math.MaxInt, (math.MaxInt-1)/46 + 1},
	} {
		if got := journal.Need(row[0]); got != row[1] {
			t.Errorf("Need(%d): %d, want %d", row[0], got, row[1])
		}
	}
	b := make([]byte, 1_000)
	for k := range b {
		if got := journal.Need(k); got != needs(b[:k]) {
			t.Errorf("Need(%d): %d, want %d", k, got, needs(b[:k]))
		}
	}
}

// refuses holds what New and Open answer of what may not be, or may be.
func refuses(t *testing.T, d *disk.Disk, from, n int, epoch uint32, want api.Errno) {
	t.Helper()
	for name, make := range map[string]func(*disk.Disk, int, int, uint32) (*journal.Journal, api.Errno){"New": journal.New, "Open": journal.Open} {
		if j, err := make(d, from, n, epoch); err != want || (j != nil) != (want == api.OK) {
			t.Errorf("%s(%d, %d, %d): a journal %v, error %d; want error %d", name, from, n, epoch, j != nil, err, want)
		}
	}
}

func TestWhereAJournalMayBe(t *testing.T) {
	d := made(t, 5)
	ends := []int{math.MinInt, math.MinInt + 1, -5, -1, 0, 1, 2, 3, 4, 5, 6, 7, math.MaxInt - 5, math.MaxInt - 1, math.MaxInt}
	for _, from := range ends {
		for _, n := range ends {
			want := api.ErrArg
			if from >= 0 && from < 5 && n >= 1 && n <= 5 && from+n <= 5 {
				want = api.OK
			}
			for _, epoch := range []uint32{1, 2, 1 << 31, math.MaxUint32 - 1, math.MaxUint32} {
				refuses(t, d, from, n, epoch, want)
			}
			refuses(t, d, from, n, 0, api.ErrArg)
		}
	}
}

func TestTheGreatestJournal(t *testing.T) {
	d := made(t, api.MaxSectors)
	refuses(t, d, 0, api.MaxSectors, 1, api.OK)
	refuses(t, d, 0, api.MaxSectors+1, 1, api.ErrArg)
	refuses(t, d, 1, api.MaxSectors, 1, api.ErrArg)
	refuses(t, d, api.MaxSectors-1, 1, 1, api.OK)
	refuses(t, d, api.MaxSectors, 1, 1, api.ErrArg)
}

// Of several faults the one that is named first counts.
func TestRanksOfWhatMayNotBe(t *testing.T) {
	off := made(t, 4)
	off.Crash(nil)
	for _, row := range []struct {
		from, n int
		epoch   uint32
	}{{-1, 2, 1}, {0, 0, 1}, {0, -1, 1}, {0, 5, 1}, {4, 1, 1}, {0, 4, 0}, {-1, 0, 0}} {
		refuses(t, nil, row.from, row.n, row.epoch, api.ErrNil)
		refuses(t, off, row.from, row.n, row.epoch, api.ErrArg)
	}
	refuses(t, nil, 0, 4, 1, api.ErrNil)
	refuses(t, off, 0, 4, 1, api.ErrDown)
	off.Start()
	refuses(t, off, 0, 4, 1, api.OK)
	refuses(t, &disk.Disk{}, 0, 1, 1, api.ErrArg)
	refuses(t, &disk.Disk{}, 0, 0, 1, api.ErrArg)
}

// Power that an Arm has let go is off as well.
func TestPowerThatWasArmed(t *testing.T) {
	d := made(t, 2)
	d.Arm(1)
	d.Sync()
	refuses(t, d, 0, 2, 1, api.ErrDown)
}

// New has no records, whatever stands there, and what it adds stands from the first sector on.
func TestNewHasNoRecords(t *testing.T) {
	for _, epoch := range []uint32{1, 7, 8, math.MaxUint32} {
		d := on(t, append(records(t, 7, 0, list(46, 60, 1)...), make([]sector, 3)...))
		j := fresh(t, d, 0, 7, epoch)
		has(t, j, 0)
		adds(t, j, data(5, 99))
		has(t, j, epoch, data(5, 99))
		if b := all(t, d)[0]; b != record(t, epoch, 0, data(5, 99))[0] {
			t.Errorf("of the Epoch %d: in the first sector stands %x", epoch, b)
		}
	}
}

func TestOpenOfNothing(t *testing.T) {
	for _, n := range []int{1, 2, 9} {
		stands(t, make([]sector, n))
	}
	var junk []sector
	for c := range 256 {
		junk = append(junk, sector(bytes.Repeat([]byte{byte(c)}, 64)))
	}
	stands(t, junk)
}

// Neither New nor Open writes, syncs, or makes anything loose: the call that is armed is not hit by them.
func TestNeitherWrites(t *testing.T) {
	of := append(records(t, 3, 0, list(92, 1, 46)...), records(t, 2, 3, data(50, 9))...)
	d := on(t, of)
	loose := sector{1, 2, 3}
	if err := d.Write(5, loose); err != api.OK {
		t.Fatal(err)
	}
	d.Arm(1)
	fresh(t, d, 0, len(of), 9)
	opened(t, d, 0, len(of), 9)
	if d.Down() {
		t.Fatal("a call that is counted was made")
	}
	of[5] = loose
	if got := all(t, d); !slices.Equal(got, of) {
		t.Errorf("%x is there, want %x", got, of)
	}
	if d.Sync() != api.ErrDown {
		t.Error("what was armed is gone")
	}
	d.Crash([]int{2})
	d.Start()
	if b, _ := d.Read(5); b == loose || b[0] != 1 || b[1] != 2 {
		t.Errorf("the loose sector was made sure, or is not loose any more: %x", b)
	}
}

func TestOpenOfRecordsOfAllLengths(t *testing.T) {
	for k := 1; k <= 200; k++ {
		of := records(t, 5, 0, data(k, 1), data(201-k, 2))
		stands(t, of, data(k, 1), data(201-k, 2))
		stands(t, append(of, make([]sector, 3)...), data(k, 1), data(201-k, 2))
	}
}

// Noughts at the ends of records are bytes like others.
func TestRecordsOfNoughts(t *testing.T) {
	for k := 1; k < 150; k++ {
		stands(t, records(t, 5, 0, make([]byte, k), []byte{0}), make([]byte, k), []byte{0})
	}
}

// What is opened goes on behind what was found, with the next number and its own epoch.
func TestOpenGoesOn(t *testing.T) {
	d := made(t, 12)
	want := list(46, 93, 1, 92, 2)
	for i := range want {
		j := opened(t, d, 2, 9, uint32(10*(i+1)))
		first := uint32(10)
		if i == 0 {
			first = 0
		}
		has(t, j, first, want[:i]...)
		adds(t, j, want[i])
		has(t, j, 10, want[:i+1]...)
	}
	of := make([]sector, 2)
	for i, b := range want {
		of = append(of, record(t, uint32(10*(i+1)), uint32(i), b)...)
	}
	of = append(of, make([]sector, 12-len(of))...)
	if got := all(t, d); !slices.Equal(got, of) {
		t.Errorf("%x is there, want %x", got, of)
	}
}

// A journal's sectors alone are read: what stands ahead of them, and behind them, plays no part.
func TestWithinItsSectors(t *testing.T) {
	l := list(46, 93, 1)
	of := records(t, 4, 0, l...)
	d := made(t, 9)
	lay(t, d, 2, of)
	for n, want := range []int{1: 1, 2: 1, 3: 1, 4: 2, 5: 3, 6: 3, 7: 3} {
		if n > 0 {
			has(t, opened(t, d, 2, n, 5), 4, l[:want]...)
		}
	}
	for _, from := range []int{0, 1, 3, 4, 5, 6, 7, 8} {
		has(t, opened(t, d, from, 9-from, 5), 0)
	}
}

// A record that ends just where the sectors end is there; one that would end behind them is not, whatever stands behind them.
func TestAtTheEndOfTheSectors(t *testing.T) {
	for _, k := range []int{1, 45, 46, 47, 92, 93, 500} {
		of := records(t, 4, 0, data(46, 1), data(k, 2), data(3, 3))
		d := on(t, of)
		n := 1 + needs(data(k, 2))
		has(t, opened(t, d, 0, n, 5), 4, data(46, 1), data(k, 2))
		has(t, opened(t, d, 0, n+1, 5), 4, data(46, 1), data(k, 2), data(3, 3))
		has(t, opened(t, d, 0, n-1, 5), 4, data(46, 1))
		stands(t, of[:n], data(46, 1), data(k, 2))
		stands(t, of[:n-1], data(46, 1))
	}
}

// The Epochs of what stands there: they never fall; the same one may go on, and a greater one.
func TestEpochsThatFall(t *testing.T) {
	of := func(epochs ...uint32) []sector {
		var of []sector
		for i, epoch := range epochs {
			of = append(of, record(t, epoch, uint32(i), data(40+5*i, byte(i+1)))...)
		}
		return of
	}
	l := [][]byte{data(40, 1), data(45, 2), data(50, 3), data(55, 4)}
	stands(t, of(1, 1, 1, 1), l...)
	stands(t, of(1, 2, 3, 4), l...)
	stands(t, of(1, 1, 9, 9), l...)
	stands(t, of(5, 6, math.MaxUint32, math.MaxUint32), l...)
	stands(t, of(1, 1<<31-1, 1<<31, math.MaxUint32), l...)
	stands(t, of(2, 1, 2, 3), l[:1]...)
	stands(t, of(2, 1, 1, 1), l[:1]...)
	stands(t, of(1, 3, 2, 3), l[:2]...)
	stands(t, of(1, 2, 3, 2), l[:3]...)
	stands(t, of(math.MaxUint32, math.MaxUint32, 1, math.MaxUint32), l[:2]...)
	stands(t, of(math.MaxUint32, 1), l[:1]...)
	stands(t, of(1<<31, 1<<31-1), l[:1]...)
}

// First is the Epoch of number 0, not of a later one, nor the journal's own.
func TestFirst(t *testing.T) {
	for _, epoch := range []uint32{1, 2, 255, 256, 1 << 31, math.MaxUint32} {
		d := on(t, append(record(t, epoch, 0, data(50, 1)), make([]sector, 3)...))
		j := opened(t, d, 0, 5, math.MaxUint32)
		has(t, j, epoch, data(50, 1))
		adds(t, j, data(1, 2))
		has(t, j, epoch, data(50, 1), data(1, 2))
		k := fresh(t, d, 0, 5, epoch)
		has(t, k, 0)
		adds(t, k, data(47, 3), data(1, 4))
		has(t, k, epoch, data(47, 3), data(1, 4))
	}
}

// Open's own epoch is not asked for in finding: what is of a greater one stands there as well.
func TestOpenWithALesserEpoch(t *testing.T) {
	l := list(46, 47)
	d := on(t, append(records(t, 8, 0, l...), make([]sector, 2)...))
	for _, epoch := range []uint32{1, 7, 8, 9} {
		has(t, opened(t, d, 0, 5, epoch), 8, l...)
	}
	j := opened(t, d, 0, 5, 7)
	adds(t, j, data(4, 9))
	has(t, j, 8, append(l, data(4, 9))...)
	has(t, opened(t, d, 0, 5, 9), 8, l...)
}

// What follows: what stands behind the records is passed over.
func TestWhatIsPassedOver(t *testing.T) {
	l := list(46, 60, 3)
	for name, behind := range map[string][]sector{
		"an elder epoch":                   record(t, 5, 3, data(46, 9)),
		"an elder epoch, more leaves":      record(t, 5, 3, data(99, 9)),
		"the first epoch":                  record(t, 1, 3, data(9, 9)),
		"the number ahead":                 record(t, 6, 2, data(3, 3)),
		"number 0":                         record(t, 6, 0, data(46, 1)),
		"all of them once more":            records(t, 6, 0, l...),
		"a number further on":              record(t, 6, 4, data(46, 9)),
		"a far number":                     record(t, 6, 3+1<<8, data(46, 9)),
		"a number that is far round":       record(t, 6, 3+1<<16, data(46, 9)),
		"the greatest number":              record(t, 6, math.MaxUint32, data(46, 9)),
		"the beginning of one":             record(t, 6, 3, data(99, 9))[:1],
		"more of the beginning of one":     record(t, 6, 3, data(99, 9))[:2],
		"a beginning, and another one":     append(record(t, 6, 3, data(99, 9))[:2], record(t, 6, 3, data(4, 9))...),
		"a beginning, and the next number": append(record(t, 6, 3, data(99, 9))[:2], record(t, 6, 4, data(4, 9))...),
		"the end of one":                   record(t, 6, 3, data(99, 9))[1:],
		"the middle of one":                record(t, 6, 3, data(99, 9))[1:2],
		"a gap":                            append(make([]sector, 1), record(t, 6, 3, data(46, 9))...),
		"noughts":                          make([]sector, 2),
	} {
		t.Run(name, func(t *testing.T) {
			of := append(records(t, 6, 0, l...), behind...)
			stands(t, of, l...)
			j := opened(t, on(t, append(of, make([]sector, 5)...)), 0, len(of)+5, 7)
			adds(t, j, data(120, 4))
			has(t, j, 6, append(slices.Clone(l), data(120, 4))...)
		})
	}
}

// Leaves that are none of one record together: each of them could be.
func TestLeavesOfNoRecord(t *testing.T) {
	whole := record(t, 6, 1, data(138, 2))
	turned := func(at int, turn func(l *api.Leaf)) []sector {
		of := slices.Clone(whole)
		l, _ := leaf.Take(of[at])
		turn(&l)
		of[at] = laid(t, l)
		return append(record(t, 6, 0, data(46, 1)), of...)
	}
	stands(t, append(record(t, 6, 0, data(46, 1)), whole...), data(46, 1), data(138, 2))
	for at := range whole {
		stands(t, turned(at, func(l *api.Leaf) { l.First = !l.First }), data(46, 1))
		stands(t, turned(at, func(l *api.Leaf) { l.Number++ }), data(46, 1))
		stands(t, turned(at, func(l *api.Leaf) { l.Number-- }), data(46, 1))
		stands(t, turned(at, func(l *api.Leaf) { l.Epoch++ }), data(46, 1))
		stands(t, turned(at, func(l *api.Leaf) { l.Epoch-- }), data(46, 1))
		stands(t, turned(at, func(l *api.Leaf) { l.Epoch = math.MaxUint32 }), data(46, 1))
		stands(t, turned(at, func(l *api.Leaf) { l.Epoch, l.Number = 5, 0 }), data(46, 1))
	}
	stands(t, turned(2, func(l *api.Leaf) { l.Last = false }), data(46, 1))
	for at := range 2 { // what ends sooner is shorter, and there
		stands(t, turned(at, func(l *api.Leaf) { l.Last = true }), data(46, 1), data(138, 2)[:46*(at+1)])
	}
	for at := range whole {
		of := append(record(t, 6, 0, data(46, 1)), whole...)
		of[1+at][20] ^= 1
		stands(t, of, data(46, 1))
		of[1+at] = sector{}
		stands(t, of, data(46, 1))
	}
}

// A record of number 0 that is none: nothing is there, whatever stands behind it.
func TestWithoutNumberNought(t *testing.T) {
	of := records(t, 6, 0, list(99, 46, 1)...)
	for at := range 3 {
		off := slices.Clone(of)
		off[at][63] ^= 1
		stands(t, off)
		has(t, opened(t, on(t, off), 0, len(off), 9), 0)
	}
	stands(t, records(t, 6, 1, list(46, 46)...))
}

// Any row of leaves, right ones and others, that could be of some few records: what is found is what the chapter says.
func TestAnyRowOfLeaves(t *testing.T) {
	r := rand.New(rand.NewSource(81))
	found := map[int]int{}
	for range 20_000 {
		var of []sector
		number, epoch := uint32(0), uint32(1+r.Intn(3))
		for range 1 + r.Intn(5) {
			b := make([]byte, 1+r.Intn(130))
			r.Read(b)
			of = append(of, record(t, epoch, number, b)...)
			if r.Intn(8) > 0 {
				number++
			}
			if r.Intn(3) == 0 {
				epoch = uint32(max(1, int(epoch)+r.Intn(4)-1))
			}
		}
		if at := r.Intn(len(of)); r.Intn(4) == 0 {
			l, _ := leaf.Take(of[at])
			l.First, l.Last = r.Intn(2) == 0, l.Last || r.Intn(2) == 0
			of[at] = laid(t, l)
		}
		d := on(t, of)
		from := 0
		if r.Intn(4) == 0 {
			from = r.Intn(len(of))
		}
		n := 1 + r.Intn(len(of)-from)
		want, first := plain(of[from : from+n])
		has(t, opened(t, d, from, n, 1+r.Uint32()/2), first, want...)
		found[len(want)]++
	}
	for n := range 5 {
		if found[n] < 100 {
			t.Errorf("%d rows alone had %d records", found[n], n)
		}
	}
}

func TestOfNil(t *testing.T) {
	var j *journal.Journal
	if j.Records() != nil || j.First() != 0 || j.Used() != 0 {
		t.Errorf("of nil: %v, %d, %d", j.Records(), j.First(), j.Used())
	}
	for _, n := range []int{0, 1, 46, api.MaxRecord, api.MaxRecord + 1} {
		add(t, j, make([]byte, n), api.ErrNil)
	}
}

// R1: one that neither New nor Open made has no sectors, and no call panics.
func TestOfTheZeroValue(t *testing.T) {
	var j journal.Journal
	add(t, &j, nil, api.ErrArg)
	add(t, &j, make([]byte, api.MaxRecord+1), api.ErrArg)
	add(t, &j, []byte{1}, api.ErrFull)
	add(t, &j, make([]byte, api.MaxRecord), api.ErrFull)
	has(t, &j, 0)
}

// P8.2

// Each length has the leaves that it needs: sector by sector they are there, and nothing beside them is written.
func TestWhatAddWrites(t *testing.T) {
	around := sector{0xaa, 0xbb}
	for k := 1; k <= 150; k++ {
		of := slices.Repeat([]sector{around}, 14)
		d := on(t, of)
		j := fresh(t, d, 3, 9, 0x01020304)
		adds(t, j, data(47, 7), data(k, 8))
		copy(of[3:], records(t, 0x01020304, 0, data(47, 7), data(k, 8)))
		if got := all(t, d); !slices.Equal(got, of) {
			t.Fatalf("behind %d bytes %x is there, want %x", k, got, of)
		}
	}
}

// Numbers go on from 0, and are those of records, not of sectors.
func TestNumbers(t *testing.T) {
	d := made(t, 30)
	j := fresh(t, d, 0, 30, 9)
	l := list(1, 100, 46, 47, 92, 93, 5, 6, 7)
	adds(t, j, l...)
	if got, want := all(t, d), records(t, 9, 0, l...); !slices.Equal(got[:len(want)], want) {
		t.Errorf("%x is there, want %x", got, want)
	}
	has(t, j, 9, l...)
	has(t, opened(t, d, 0, 30, 10), 9, l...)
}

func TestLengthsThatMayBeAdded(t *testing.T) {
	d := made(t, api.MaxSectors)
	for _, k := range []int{1, 45, 46, 47, 91, 92, 93, 255, 256, 65_536, api.MaxRecord - 1, api.MaxRecord} {
		j := fresh(t, d, 1, api.MaxSectors-1, 3)
		adds(t, j, data(k, 5))
		has(t, j, 3, data(k, 5))
		adds(t, j, data(1, 6))
		has(t, j, 3, data(k, 5), data(1, 6))
		has(t, opened(t, d, 1, api.MaxSectors-1, 4), 3, data(k, 5), data(1, 6))
	}
}

func TestLengthsThatMayNotBeAdded(t *testing.T) {
	d := made(t, api.MaxSectors)
	j := fresh(t, d, 0, api.MaxSectors, 3)
	adds(t, j, data(50, 1))
	was := all(t, d)
	d.Arm(1)
	for _, b := range [][]byte{nil, {}, data(46, 1)[:0], make([]byte, api.MaxRecord+1), make([]byte, 2*api.MaxRecord)} {
		add(t, j, b, api.ErrArg)
	}
	d.Arm(0)
	has(t, j, 3, data(50, 1))
	if got := all(t, d); !slices.Equal(got, was) || d.Down() {
		t.Error("what may not be added was written, or synced")
	}
	adds(t, j, data(4, 2))
	has(t, j, 3, data(50, 1), data(4, 2))
}

// Full just so, and by one sector too little; what has room yet is added all the same.
func TestFull(t *testing.T) {
	for _, k := range []int{1, 45, 46, 47, 92, 93, 138, 1_000} {
		n := 2 + needs(data(k, 2))
		d := made(t, n+2)
		j := fresh(t, d, 1, n, 4)
		adds(t, j, data(92, 1))
		add(t, j, data(46*(n-2)+1, 2), api.ErrFull)
		add(t, j, data(api.MaxRecord, 2), api.ErrFull)
		has(t, j, 4, data(92, 1))
		adds(t, j, data(k, 2))
		was := all(t, d)
		d.Arm(1)
		for _, more := range []int{1, 46, 47, api.MaxRecord} {
			add(t, j, data(more, 3), api.ErrFull)
		}
		d.Arm(0)
		has(t, j, 4, data(92, 1), data(k, 2))
		if got := all(t, d); !slices.Equal(got, was) || d.Down() {
			t.Error("what has no room was written, or synced")
		}
		o := opened(t, d, 1, n, 5)
		has(t, o, 4, data(92, 1), data(k, 2))
		add(t, o, data(1, 3), api.ErrFull)
	}
}

// One sector too little for all, however many there are.
func TestOneSectorTooLittle(t *testing.T) {
	for n := 1; n <= 6; n++ {
		j := fresh(t, made(t, n+1), 0, n, 1)
		add(t, j, data(46*n+1, 1), api.ErrFull)
		has(t, j, 0)
		adds(t, j, data(46*n, 1))
		has(t, j, 1, data(46*n, 1))
		add(t, j, data(1, 2), api.ErrFull)
	}
	j := fresh(t, made(t, 8_696), 0, 8_695, 1)
	add(t, j, data(api.MaxRecord, 1), api.ErrFull)
	adds(t, fresh(t, made(t, 8_696), 0, 8_696, 1), data(api.MaxRecord, 1))
}

// As many records as there are sectors, each with its number.
func TestManyRecords(t *testing.T) {
	d := made(t, 3_000)
	j := fresh(t, d, 0, 3_000, 1)
	var want [][]byte
	for i := range 3_000 {
		b := []byte{byte(i), byte(i >> 8)}
		want = append(want, b)
		adds(t, j, b)
	}
	add(t, j, []byte{1}, api.ErrFull)
	has(t, j, 1, want...)
	if !slices.Equal(all(t, d), records(t, 1, 0, want...)) {
		t.Error("other leaves are there")
	}
	has(t, opened(t, d, 0, 3_000, 2), 1, want...)
}

// Sync comes behind all the Writes, once: what was added is sure.
func TestWhatIsAddedIsSure(t *testing.T) {
	d := made(t, 10)
	j := fresh(t, d, 0, 10, 1)
	var want [][]byte
	for i, k := range []int{1, 46, 47, 93} {
		want = append(want, data(k, byte(i)))
		adds(t, j, want[i])
		f := d.Fork()
		f.Crash(nil)
		f.Start()
		has(t, opened(t, f, 0, 10, 2), 1, want...)
	}
}

// Which calls Add makes: a Write for each leaf, by rising sectors, and one Sync. The call that is hit is the last one that is done.
func TestTheOrderOfItsCalls(t *testing.T) {
	b := data(200, 3)
	leaves := record(t, 2, 1, b)
	for hit := 1; hit <= len(leaves)+2; hit++ {
		d := made(t, 9)
		j := fresh(t, d, 1, 8, 2)
		adds(t, j, data(46, 1))
		want := all(t, d)
		d.Arm(hit)
		err := j.Add(b)
		if ok := hit > len(leaves)+1; (err == api.OK) != ok || (err == api.ErrDown) == ok {
			t.Fatalf("with power gone at call %d: error %d", hit, err)
		}
		copy(want[2:], leaves[:min(hit, len(leaves))])
		d.Crash([]int{64}) // so all that was written is to be seen
		d.Start()
		if got := all(t, d); !slices.Equal(got, want) {
			t.Errorf("behind %d calls %x is there, want %x", hit, got, want)
		}
	}
}

// downOn is a journal with two records, on a disk whose power goes at that call of the next Add.
func downOn(t testing.TB, hit int) (*disk.Disk, *journal.Journal) {
	t.Helper()
	d := made(t, 12)
	j := fresh(t, d, 0, 12, 5)
	adds(t, j, data(46, 1), data(50, 2))
	d.Arm(hit)
	return d, j
}

// Once an Add told ErrDown, each one behind it does, power or not, right or not; what was there is there.
func TestAddBehindErrDown(t *testing.T) {
	for hit := 1; hit <= 5; hit++ {
		d, j := downOn(t, hit)
		add(t, j, data(180, 3), api.ErrDown) // four leaves and a Sync
		for _, n := range []int{1, 46, 0, api.MaxRecord, api.MaxRecord + 1} {
			add(t, j, make([]byte, n), api.ErrDown)
		}
		has(t, j, 5, data(46, 1), data(50, 2))
		d.Start()
		was := all(t, d)
		d.Arm(1)
		for _, n := range []int{1, 46, 0, api.MaxRecord, api.MaxRecord + 1} {
			add(t, j, make([]byte, n), api.ErrDown)
		}
		if d.Down() {
			t.Error("an Add behind ErrDown wrote, or synced")
		}
		d.Arm(0)
		if got := all(t, d); !slices.Equal(got, was) {
			t.Error("an Add behind ErrDown wrote")
		}
		has(t, j, 5, data(46, 1), data(50, 2))
		k := opened(t, d, 0, 12, 6) // another one on that disk is not held up
		has(t, k, 5, data(46, 1), data(50, 2))
		adds(t, k, data(180, 4))
		has(t, k, 5, data(46, 1), data(50, 2), data(180, 4))
		add(t, j, data(1, 3), api.ErrDown)
		has(t, j, 5, data(46, 1), data(50, 2))
	}
}

// Also where power is back ahead of the next one.
func TestAddBehindErrDownWithPower(t *testing.T) {
	for hit := 1; hit <= 5; hit++ {
		for _, n := range []int{1, 46, 0, api.MaxRecord, api.MaxRecord + 1} {
			d, j := downOn(t, hit)
			add(t, j, data(180, 3), api.ErrDown)
			d.Start()
			add(t, j, make([]byte, n), api.ErrDown)
			add(t, j, data(2, 4), api.ErrDown)
			has(t, j, 5, data(46, 1), data(50, 2))
			has(t, opened(t, d, 0, 12, 6), 5, data(46, 1), data(50, 2))
		}
	}
}

// An Add that finds power off told ErrDown too, although it wrote nothing.
func TestAddWithoutPower(t *testing.T) {
	for _, b := range [][]byte{data(1, 3), data(100, 3), nil, make([]byte, api.MaxRecord), make([]byte, api.MaxRecord+1)} {
		d, j := downOn(t, 0)
		d.Crash(nil)
		add(t, j, b, api.ErrDown)
		has(t, j, 5, data(46, 1), data(50, 2))
		d.Start()
		add(t, j, data(1, 3), api.ErrDown)
		add(t, j, nil, api.ErrDown)
	}
}

// ErrDown ahead of ErrArg and ErrFull, ErrArg ahead of ErrFull.
func TestRanksOfAdd(t *testing.T) {
	d := made(t, 1)
	j := fresh(t, d, 0, 1, 1)
	adds(t, j, data(46, 1))
	add(t, j, nil, api.ErrArg)
	add(t, j, make([]byte, api.MaxRecord+1), api.ErrArg)
	add(t, j, make([]byte, api.MaxRecord), api.ErrFull)
	d.Crash(nil)
	add(t, j, make([]byte, api.MaxRecord), api.ErrDown)
	add(t, j, nil, api.ErrDown)
	d.Start()
	add(t, j, make([]byte, api.MaxRecord), api.ErrDown)
	add(t, j, make([]byte, api.MaxRecord+1), api.ErrDown)
}

// What is refused otherwise leaves it as it was: only ErrDown stays.
func TestAddBehindOtherErrors(t *testing.T) {
	d := made(t, 4)
	j := fresh(t, d, 0, 4, 1)
	add(t, j, nil, api.ErrArg)
	add(t, j, data(185, 1), api.ErrFull)
	adds(t, j, data(138, 1))
	add(t, j, make([]byte, api.MaxRecord+1), api.ErrArg)
	add(t, j, data(47, 2), api.ErrFull)
	adds(t, j, data(46, 2))
	has(t, j, 1, data(138, 1), data(46, 2))
}

// Power that went and came between two Adds, neither of which it met: what was added was sure.
func TestPowerThatNoAddMet(t *testing.T) {
	d := made(t, 4)
	j := fresh(t, d, 0, 4, 1)
	adds(t, j, data(47, 1))
	d.Crash(nil)
	d.Start()
	adds(t, j, data(46, 2))
	has(t, j, 1, data(47, 1), data(46, 2))
	has(t, opened(t, d, 0, 4, 2), 1, data(47, 1), data(46, 2))
}

// What is told without power is what was told with it.
func TestWhatIsToldWithoutPower(t *testing.T) {
	d := made(t, 4)
	j := fresh(t, d, 0, 4, 6)
	adds(t, j, data(47, 1), data(1, 2))
	d.Crash(nil)
	has(t, j, 6, data(47, 1), data(1, 2))
}

// P8.3

// crashed lets an Add of b behind those that were sure meet power that goes at that call, then a crash that keeps so much of each loose sector, and adds more behind it, opened anew; it tells whether b was there.
func crashed(t testing.TB, d *disk.Disk, epoch uint32, sure [][]byte, b []byte, hit int, keep ...int) bool {
	t.Helper()
	n := d.Len()
	j := opened(t, d, 0, n, epoch)
	d.Arm(hit)
	err := j.Add(b)
	d.Crash(keep)
	d.Start()
	k := opened(t, d, 0, n, epoch+1)
	there := len(k.Records()) > len(sure)
	if err == api.OK && !there {
		t.Errorf("hit %d, keep %v: what was added is gone", hit, keep)
	}
	want := slices.Clone(sure)
	if there {
		want = append(want, b)
	}
	if got := k.Records(); !same(got, want) || k.Used() != needsAll(want) {
		t.Errorf("hit %d, keep %v, there %v: %v is there, Used %d; want %v, %d", hit, keep, there, lengths(got), k.Used(), lengths(want), needsAll(want))
	}
	has(t, opened(t, d, 0, n, epoch+2), k.First(), want...)
	addsBehind(t, d, k, want, epoch+2)
	return there
}

// addsBehind adds more behind a crash, as long as there is room; opened anew it is there each time.
func addsBehind(t testing.TB, d *disk.Disk, k *journal.Journal, want [][]byte, epoch uint32) {
	t.Helper()
	first := k.First()
	for _, more := range [][]byte{data(30, 0xee), data(60, 0xdd), data(46, 0xcc)} {
		if k.Used()+needs(more) > d.Len() {
			return
		}
		adds(t, k, more)
		want = append(want, more)
		has(t, k, first, want...)
		has(t, opened(t, d, 0, d.Len(), epoch), first, want...)
	}
}

// whole tells whether all bytes of the first n loose sectors stay.
func whole(n int, keep []int) bool {
	for i := range n {
		if len(keep) == 0 || keep[i%len(keep)] < 64 {
			return false
		}
	}
	return true
}

// keeps are how much of the loose sectors stays: nothing, a part, all, and each in turn.
func keeps() [][]int {
	return [][]int{nil, {0}, {1}, {3}, {4}, {5}, {10}, {32}, {56}, {60}, {61}, {63}, {64}, {0, 64}, {64, 0}, {64, 64, 0}, {0, 0, 64}, {64, 33, 64}, {63, 64}, {64, 63}, {-7, 99}}
}

// grounds are disks on which records of a lesser epoch were kept, and what stood behind them, or nothing.
func grounds(t testing.TB, sure [][]byte, n int) map[string]*disk.Disk {
	t.Helper()
	of := map[string]*disk.Disk{}
	standing := records(t, 6, 0, sure...)
	rest := n - len(standing)
	number := uint32(len(sure))
	for name, behind := range map[string][]sector{
		"noughts":               make([]sector, rest),
		"elder ones":            slices.Repeat(record(t, 5, number, data(1, 0x44)), rest),
		"an elder long one":     record(t, 5, number, data(46*rest, 0x55)),
		"the beginning of one":  record(t, 6, number, data(46*(rest+1), 0x66))[:rest],
		"beginnings of some":    slices.Repeat(record(t, 6, number, data(47, 0x67))[:1], rest),
		"ends of some":          slices.Repeat(record(t, 6, number, data(47, 0x68))[1:], rest),
		"others of later ones":  slices.Repeat(record(t, 6, number+1, data(46, 0x77)), rest),
		"others of the one too": slices.Repeat(record(t, 6, number-1, data(46, 0x78)), rest),
	} {
		of[name] = on(t, append(slices.Clone(standing), behind...))
	}
	return of
}

// A crash at each call of an Add, of all lengths, on all grounds, with all keeps.
func TestACrashAtEachCall(t *testing.T) {
	sure := list(46, 47, 3)
	for name, ground := range grounds(t, sure, 12) {
		for _, k := range []int{1, 45, 46, 47, 92, 93, 140, 8 * 46} {
			b := data(k, 0x99)
			n := needs(b)
			for hit := range n + 3 { // 0: none is
				for _, keep := range keeps() {
					there := crashed(t, ground.Fork(), 7, sure, b, hit, keep...)
					if want := hit == 0 || hit > n+1 || hit >= n && whole(n, keep); there != want {
						t.Errorf("%s, %d bytes, hit %d, keep %v: there %v, want %v", name, k, hit, keep, there, want)
					}
				}
			}
		}
	}
}

// Each two lengths of what stays of two loose sectors.
func TestEachCutOfTwoLeaves(t *testing.T) {
	sure := list(46, 2)
	for _, ground := range grounds(t, sure, 6) {
		for i := range 65 {
			for k := range 65 {
				crashed(t, ground.Fork(), 7, sure, data(80, 0x99), 3, i, k)
			}
		}
	}
}

// The very first record of a New journal, over an elder one: it alone is there, or it is not, and of the elder ones no other than those at the beginning, as they were.
func TestACrashOfTheFirstOne(t *testing.T) {
	elder := list(20, 46, 100, 46, 1)
	for _, k := range []int{1, 46, 47, 100, 138} {
		b := data(k, 0x99)
		for hit := range needs(b) + 3 {
			for _, keep := range keeps() {
				d := on(t, append(records(t, 6, 0, elder...), make([]sector, 4)...))
				j := fresh(t, d, 0, d.Len(), 7)
				d.Arm(hit)
				err := j.Add(b)
				d.Crash(keep)
				d.Start()
				o := opened(t, d, 0, d.Len(), 8)
				if err == api.OK || hit >= needs(b) && whole(needs(b), keep) {
					has(t, o, 7, b)
				} else if l := o.Records(); len(l) > len(elder) || !same(l, elder[:len(l)]) || (len(l) > 0) != (o.First() == 6) {
					t.Errorf("%d bytes, hit %d, keep %v: %v is there, First %d", k, hit, keep, lengths(l), o.First())
				}
			}
		}
	}
}

// Crash behind crash, each at any call and with any keeps, epoch by epoch, on one disk: what was sure stays, and at most the one under way comes to it.
func TestCrashBehindCrash(t *testing.T) {
	r := rand.New(rand.NewSource(83))
	came, gone := 0, 0
	for range 1_500 {
		n := 3 + r.Intn(15)
		d := made(t, n+2)
		var sure [][]byte
		epoch := uint32(1 + r.Intn(300))
		j := fresh(t, d, 1, n, epoch)
		for range 7 {
			d.Arm(r.Intn(8))
			var under []byte
			for range r.Intn(5) {
				under = data(1+r.Intn(150), byte(r.Intn(256)))
				err := j.Add(under)
				if err == api.ErrDown {
					break
				}
				if err == api.OK {
					sure = append(sure, under)
				}
				under = nil
			}
			d.Crash([]int{r.Intn(65), 64, r.Intn(3) * 32, 64}[r.Intn(4):])
			d.Start()
			epoch += 1 + uint32(r.Intn(200))
			j = opened(t, d, 1, n, epoch)
			if l := j.Records(); under != nil && len(l) > len(sure) {
				sure = append(sure, under)
				came++
			} else if under != nil {
				gone++
			}
			if l := j.Records(); !same(l, sure) || j.Used() != needsAll(sure) {
				t.Fatalf("behind a crash %v is there; %v was sure", lengths(l), lengths(sure))
			}
		}
		for _, at := range []int{0, n + 1} {
			if b, _ := d.Read(at); b != (sector{}) {
				t.Fatalf("beside the journal, at %d, %x is there", at, b)
			}
		}
	}
	if came < 100 || gone < 100 {
		t.Errorf("of those under way %d came, %d went", came, gone)
	}
}

// Power that comes back without a crash: what was loose is gone.
func TestStartWithoutACrash(t *testing.T) {
	for hit := 1; hit <= 5; hit++ {
		d, j := downOn(t, hit)
		add(t, j, data(180, 3), api.ErrDown)
		d.Start()
		has(t, opened(t, d, 0, 12, 6), 5, data(46, 1), data(50, 2))
	}
}

// R3 and R2

// What is added is not changed, with the room behind its end, and not kept.
func TestWhatIsAddedIsNotKept(t *testing.T) {
	for _, k := range []int{1, 46, 47, 100} {
		room := data(200, 1)
		d := made(t, 10)
		j := fresh(t, d, 0, 10, 1)
		adds(t, j, room[:k])
		if !bytes.Equal(room, data(200, 1)) {
			t.Fatalf("behind Add of %d bytes there is %x", k, room)
		}
		for i := range room {
			room[i] = 0xee
		}
		has(t, j, 1, data(200, 1)[:k])
		has(t, opened(t, d, 0, 10, 2), 1, data(200, 1)[:k])
		adds(t, j, room[:k]) // the same memory once more
		room[0] = 0xdd
		has(t, j, 1, data(200, 1)[:k], bytes.Repeat([]byte{0xee}, k))
	}
}

// What is handed out is new: who writes to it, the room behind it too, changes nothing else.
func TestWhatIsHandedOutIsNew(t *testing.T) {
	want := list(46, 47, 1, 100)
	d := made(t, 12)
	j := fresh(t, d, 0, 12, 1)
	adds(t, j, want...)
	f := d.Fork()
	for d, j := range map[*disk.Disk]*journal.Journal{d: j, f: opened(t, f, 0, 12, 2)} { // what was added, and what was found
		got, other := j.Records(), j.Records()
		for i, b := range got {
			b = b[:cap(b)]
			for k := range b {
				b[k] = 0xee
			}
			if !same(other, want) || !same(got[i+1:], want[i+1:]) {
				t.Fatalf("with the record %d others were written", i)
			}
			got[i] = append(b, 1, 2, 3)
		}
		got = append(got[:2], nil)
		if _ = append(got[:cap(got)], nil); !same(other, want) {
			t.Error("with the list another was written")
		}
		has(t, j, 1, want...)
		has(t, opened(t, d, 0, 12, 3), 1, want...)
		adds(t, j, data(2, 9))
		if !same(other, want) {
			t.Error("with an Add what was handed out is another")
		}
		has(t, j, 1, append(slices.Clone(want), data(2, 9))...)
	}
}

// What a journal tells is what it found and added, whatever others do to its sectors.
func TestWhatOthersDo(t *testing.T) {
	d := made(t, 6)
	j := fresh(t, d, 0, 3, 1)
	adds(t, j, data(47, 1))
	o := opened(t, d, 0, 3, 2)
	lay(t, d, 0, make([]sector, 6))
	k := fresh(t, d, 3, 3, 9)
	adds(t, k, data(3, 2), data(4, 3))
	has(t, j, 1, data(47, 1))
	has(t, o, 1, data(47, 1))
	has(t, k, 9, data(3, 2), data(4, 3))
	has(t, opened(t, d, 0, 3, 3), 0)
}

// Two journals on one disk, one behind the other, as halves are.
func TestTwoOnOneDisk(t *testing.T) {
	d := made(t, 8)
	a, b := fresh(t, d, 0, 4, 1), fresh(t, d, 4, 4, 2)
	adds(t, a, data(46, 1))
	adds(t, b, data(47, 2))
	adds(t, a, data(92, 3), data(1, 4))
	adds(t, b, data(50, 5))
	add(t, a, data(1, 6), api.ErrFull)
	add(t, b, data(1, 6), api.ErrFull)
	has(t, a, 1, data(46, 1), data(92, 3), data(1, 4))
	has(t, b, 2, data(47, 2), data(50, 5))
	has(t, opened(t, d, 0, 4, 3), 1, data(46, 1), data(92, 3), data(1, 4))
	has(t, opened(t, d, 4, 4, 3), 2, data(47, 2), data(50, 5))
	has(t, opened(t, d, 0, 8, 3), 1, data(46, 1), data(92, 3), data(1, 4))
}

// Journals on disks of their own, at the same time.
func TestBesideEachOther(t *testing.T) {
	ground := on(t, append(records(t, 1, 0, list(46, 99)...), make([]sector, 8)...))
	faults := make([]string, 50)
	var done sync.WaitGroup
	for i := range faults {
		d := ground.Fork()
		done.Go(func() {
			j, _ := journal.Open(d, 0, d.Len(), 2)
			j.Add(data(60+i, byte(i)))
			k, _ := journal.Open(d, 0, d.Len(), 3)
			if l := append(list(46, 99), data(60+i, byte(i))); !same(k.Records(), l) || !same(j.Records(), l) {
				faults[i] = fmt.Sprint(lengths(k.Records()), lengths(j.Records()))
			}
		})
	}
	done.Wait()
	for i, fault := range faults {
		if fault != "" {
			t.Errorf("the journal %d beside others: %s", i, fault)
		}
	}
}

func BenchmarkOpen(b *testing.B) {
	d := made(b, api.MaxSectors)
	adds(b, fresh(b, d, 0, api.MaxSectors, 1), data(api.MaxRecord, 1), data(api.MaxRecord, 2))
	for b.Loop() {
		opened(b, d, 0, api.MaxSectors, 2)
	}
}
