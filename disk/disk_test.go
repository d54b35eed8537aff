package disk_test

import (
	"fmt"
	"maps"
	"math"
	"math/rand"
	"slices"
	"testing"

	"haberdash/api"
	"haberdash/disk"
)

type sector = [64]byte

// full is a sector of one byte.
func full(c byte) sector {
	var b sector
	for i := range b {
		b[i] = c
	}
	return b
}

// torn is the first n bytes of what was written, and behind them those that were sure.
func torn(sure, written sector, n int) sector {
	for i := range n {
		sure[i] = written[i]
	}
	return sure
}

// made is New of a number that may be.
func made(t testing.TB, n int) *disk.Disk {
	t.Helper()
	d, err := disk.New(n)
	if err != api.OK || d == nil {
		t.Fatalf("New(%d): error %d", n, err)
	}
	return d
}

// write is a Write that is answered so.
func write(t testing.TB, d *disk.Disk, at int, b sector, want api.Errno) {
	t.Helper()
	if err := d.Write(at, b); err != want {
		t.Fatalf("Write(%d): error %d, want %d", at, err, want)
	}
}

// writes writes what is full of each byte, from sector 0 on.
func writes(t testing.TB, d *disk.Disk, bytes ...byte) {
	t.Helper()
	for at, c := range bytes {
		write(t, d, at, full(c), api.OK)
	}
}

// syncs is a Sync that is answered so.
func syncs(t testing.TB, d *disk.Disk, want api.Errno) {
	t.Helper()
	if err := d.Sync(); err != want {
		t.Fatalf("Sync: error %d, want %d", err, want)
	}
}

// reads holds all sectors against want, the power being on, and Read of the places beside them.
func reads(t testing.TB, d *disk.Disk, want ...sector) {
	t.Helper()
	if d.Down() || d.Len() != len(want) {
		t.Fatalf("Down: %v, Len: %d; want false, %d", d.Down(), d.Len(), len(want))
	}
	for at, b := range want {
		if got, err := d.Read(at); err != api.OK || got != b {
			t.Errorf("Read(%d): %x, error %d; want %x", at, got, err, b)
		}
	}
	for _, at := range []int{-1, len(want)} {
		if got, err := d.Read(at); err != api.ErrArg || got != full(0) {
			t.Errorf("Read(%d): %x, error %d; want noughts, error %d", at, got, err, api.ErrArg)
		}
	}
}

// dark holds that power is off: nothing is answered but that.
func dark(t testing.TB, d *disk.Disk, n int) {
	t.Helper()
	if !d.Down() || d.Len() != n {
		t.Errorf("Down: %v, Len: %d; want true, %d", d.Down(), d.Len(), n)
	}
	for _, at := range places(n) {
		if b, err := d.Read(at); err != api.ErrDown || b != full(0) {
			t.Errorf("Read(%d) without power: %x, error %d", at, b, err)
		}
		write(t, d, at, full(0xee), api.ErrDown)
	}
	syncs(t, d, api.ErrDown)
}

// places are those of n sectors at both ends, and those beside them.
func places(n int) []int {
	return []int{math.MinInt, -n, -1, 0, n - 1, n, n + 1, math.MaxInt}
}

// crashed is d behind a crash, started anew.
func crashed(d *disk.Disk, keep ...int) *disk.Disk {
	d.Crash(keep)
	d.Start()
	return d
}

// P6.1

func TestNewRefusesOtherNumbers(t *testing.T) {
	for _, n := range []int{math.MinInt, -api.MaxSectors, -1, 0, api.MaxSectors + 1, 2 * api.MaxSectors, math.MaxInt} {
		if d, err := disk.New(n); err != api.ErrArg || d != nil {
			t.Errorf("New(%d): %v, error %d; want nil, error %d", n, d, err, api.ErrArg)
		}
	}
}

func TestNewHasNoughts(t *testing.T) {
	for _, n := range []int{1, 2, 63, 64, 65, api.MaxSectors - 1, api.MaxSectors} {
		reads(t, made(t, n), make([]sector, n)...)
	}
}

// A crash keeps of a sector that is loose what was written: of a new disk none has anything but noughts, and none takes a turn.
func TestNewIsSure(t *testing.T) {
	reads(t, crashed(made(t, 3), 64), make([]sector, 3)...)
	d := made(t, 3)
	write(t, d, 2, full(5), api.OK)
	reads(t, crashed(d, 7, 9, 11), full(0), full(0), torn(full(0), full(5), 7))
}

func TestReadIsWhatWasWrittenLast(t *testing.T) {
	for _, n := range []int{1, 2, 7, api.MaxSectors} {
		d, want := made(t, n), make([]sector, n)
		for step, at := range []int{0, n - 1, n / 2, 0, n - 1} {
			b := full(byte(step + 1))
			b[63] = 0x80 + byte(at)
			write(t, d, at, b, api.OK)
			want[at] = b
			reads(t, d, want...)
		}
	}
}

func TestReadChangesNothing(t *testing.T) {
	d := made(t, 2)
	writes(t, d, 1)
	d.Arm(2)
	for range 5 {
		reads(t, d, full(1), full(0))
	}
	write(t, d, 1, full(2), api.OK)
	reads(t, d, full(1), full(2))
	syncs(t, d, api.ErrDown)
	d.Crash([]int{3, 4})
	d.Start()
	reads(t, d, torn(full(0), full(1), 3), torn(full(0), full(2), 4))
}

func TestPlacesThatAreNotThere(t *testing.T) {
	for _, n := range []int{1, 2, 5, api.MaxSectors} {
		d := made(t, n)
		for _, at := range places(n) {
			if at >= 0 && at < n {
				continue
			}
			if b, err := d.Read(at); err != api.ErrArg || b != full(0) {
				t.Errorf("of %d: Read(%d): %x, error %d", n, at, b, err)
			}
			write(t, d, at, full(9), api.ErrArg)
		}
		reads(t, d, make([]sector, n)...)
		reads(t, crashed(d, 64), make([]sector, n)...)
	}
}

func TestSyncMakesSure(t *testing.T) {
	for _, keep := range [][]int{nil, {0}, {17}, {64}, {-1, 70}} {
		d := made(t, 4)
		writes(t, d, 1, 2, 3)
		syncs(t, d, api.OK)
		reads(t, d, full(1), full(2), full(3), full(0))
		reads(t, crashed(d, keep...), full(1), full(2), full(3), full(0))
	}
}

func TestSyncOfNothing(t *testing.T) {
	d := made(t, 1)
	syncs(t, d, api.OK)
	syncs(t, d, api.OK)
	reads(t, d, full(0))
	d.Arm(1)
	syncs(t, d, api.ErrDown) // it would be done, and is hit
	dark(t, d, 1)
}

func TestSyncLeavesNoneLoose(t *testing.T) {
	d := made(t, 3)
	writes(t, d, 1, 2, 3)
	syncs(t, d, api.OK)
	write(t, d, 2, full(4), api.OK)
	reads(t, crashed(d, 5, 6, 7), full(1), full(2), torn(full(3), full(4), 5))
}

// What is written a second time is cut against what is sure, not against what was written first.
func TestWrittenTwiceIsLooseOnce(t *testing.T) {
	d := made(t, 2)
	writes(t, d, 1, 2)
	syncs(t, d, api.OK)
	writes(t, d, 3, 4)
	writes(t, d, 5)
	reads(t, d, full(5), full(4))
	reads(t, crashed(d, 10, 20), torn(full(1), full(5), 10), torn(full(2), full(4), 20))
}

// A sector is loose by being written, also by what it has already.
func TestWrittenAsItWasIsLoose(t *testing.T) {
	d := made(t, 2)
	writes(t, d, 0, 8)
	reads(t, crashed(d, 3, 30), full(0), torn(full(0), full(8), 30))
}

func TestErrorsRanks(t *testing.T) {
	var none *disk.Disk
	off := made(t, 2)
	off.Crash(nil)
	for _, x := range []struct {
		d    *disk.Disk
		at   int
		want api.Errno
	}{
		{none, -1, api.ErrNil}, {none, 0, api.ErrNil}, {none, 9, api.ErrNil},
		{off, -1, api.ErrDown}, {off, 0, api.ErrDown}, {off, 2, api.ErrDown},
		{made(t, 2), -1, api.ErrArg}, {made(t, 2), 2, api.ErrArg}, {made(t, 2), 1, api.OK},
	} {
		if b, err := x.d.Read(x.at); err != x.want || b != full(0) {
			t.Errorf("Read(%d): %x, error %d, want %d", x.at, b, err, x.want)
		}
		write(t, x.d, x.at, full(1), x.want)
	}
	syncs(t, none, api.ErrNil)
	syncs(t, off, api.ErrDown)
}

// P6.2

func TestOfNil(t *testing.T) {
	var d *disk.Disk
	for range 2 {
		if b, err := d.Read(0); err != api.ErrNil || b != full(0) {
			t.Errorf("Read of nil: %x, error %d", b, err)
		}
		write(t, d, 0, full(1), api.ErrNil)
		syncs(t, d, api.ErrNil)
		if d.Len() != 0 || d.Down() || d.Fork() != nil {
			t.Errorf("of nil: Len %d, Down %v, Fork %v", d.Len(), d.Down(), d.Fork())
		}
		for _, n := range []int{math.MinInt, 0, 1, math.MaxInt} {
			d.Arm(n)
			d.Crash([]int{n})
			d.Start()
		}
		d.Crash(nil)
	}
}

func TestOfNoSectors(t *testing.T) {
	var d disk.Disk
	reads(t, &d)
	write(t, &d, 0, full(1), api.ErrArg)
	syncs(t, &d, api.OK)
	f := d.Fork()
	reads(t, f)
	f.Crash([]int{1, 2})
	dark(t, f, 0)
	f.Start()
	reads(t, f)
	reads(t, &d)
}

// Of five calls the n-th is hit: those ahead of it are done, those behind it are told that power is off.
func TestArmHitsTheOneThatItCounts(t *testing.T) {
	for n := range 8 {
		d := made(t, 3)
		d.Arm(n)
		calls := []func() api.Errno{
			func() api.Errno { return d.Write(0, full(1)) },
			func() api.Errno { return d.Write(2, full(2)) },
			func() api.Errno { return d.Sync() },
			func() api.Errno { return d.Write(0, full(3)) },
			func() api.Errno { return d.Sync() },
		}
		for i, call := range calls {
			want := api.OK
			if n > 0 && i >= n-1 {
				want = api.ErrDown
			}
			if err := call(); err != want || d.Down() != (want != api.OK) {
				t.Errorf("Arm(%d): call %d: error %d, want %d; Down: %v", n, i+1, err, want, d.Down())
			}
		}
		first, last := 0, 0 // what the crash keeps of sectors 0 and 2
		sure := [3]sector{}
		switch n {
		case 1:
			first = 1
		case 2, 3:
			first, last = 1, 2
		case 4, 5:
			sure[0], sure[2], first = full(1), full(2), 3
		default:
			sure[0], sure[2] = full(3), full(2)
		}
		if first > 0 {
			sure[0] = torn(sure[0], full(byte(first)), 11)
		}
		if last > 0 {
			sure[2] = torn(sure[2], full(byte(last)), 22)
		}
		reads(t, crashed(d, 11, 22), sure[:]...)
	}
}

func TestArmOfLessThanOne(t *testing.T) {
	for _, n := range []int{math.MinInt, -2, -1, 0} {
		for _, elder := range []int{0, 1, 3} {
			d := made(t, 1)
			d.Arm(elder)
			d.Arm(n)
			for i := range 9 {
				write(t, d, 0, full(byte(i)), api.OK)
				syncs(t, d, api.OK)
			}
			reads(t, d, full(8))
		}
	}
}

func TestArmOverAnElderOne(t *testing.T) {
	for _, elder := range []int{-1, 0, 1, 2, 5, math.MaxInt} {
		for spent := range 3 {
			if elder > 0 && elder <= spent {
				continue // it is met by then
			}
			for n := 1; n < 5; n++ {
				d := made(t, 1)
				d.Arm(elder)
				for range spent {
					write(t, d, 0, full(1), api.OK)
				}
				d.Arm(n)
				for range n - 1 {
					write(t, d, 0, full(2), api.OK)
				}
				write(t, d, 0, full(3), api.ErrDown)
				dark(t, d, 1)
			}
		}
	}
}

func TestArmOfManyIsNotMet(t *testing.T) {
	d := made(t, 1)
	d.Arm(math.MaxInt)
	for range 100 {
		write(t, d, 0, full(1), api.OK)
		syncs(t, d, api.OK)
	}
	d.Arm(100)
	for range 99 {
		write(t, d, 0, full(1), api.OK)
	}
	write(t, d, 0, full(1), api.ErrDown)
}

// A call that would not be done is told its own error, and does not count.
func TestArmPassesOverWhatWouldNotBeDone(t *testing.T) {
	d := made(t, 2)
	d.Arm(2)
	for _, at := range []int{math.MinInt, -1, 2, 3, math.MaxInt} {
		write(t, d, at, full(1), api.ErrArg)
		d.Read(at)
		d.Read(0)
	}
	write(t, d, 1, full(1), api.OK)
	write(t, d, 2, full(1), api.ErrArg)
	if d.Down() {
		t.Fatal("a Write that would not be done is hit")
	}
	syncs(t, d, api.ErrDown)
	dark(t, d, 2)
}

func TestArmWithoutPower(t *testing.T) {
	d := made(t, 1)
	d.Crash(nil)
	d.Arm(1)
	write(t, d, 0, full(1), api.ErrDown)
	syncs(t, d, api.ErrDown)
	d.Start()
	write(t, d, 0, full(1), api.OK) // Start leaves nothing armed
	syncs(t, d, api.OK)
	d.Arm(1)
	d.Crash(nil)
	d.Crash(nil)
	d.Start()
	syncs(t, d, api.OK) // so does Crash
	reads(t, d, full(1))
}

func TestWriteThatIsHitIsDone(t *testing.T) {
	hit := func() *disk.Disk {
		d := made(t, 2)
		writes(t, d, 1, 2)
		syncs(t, d, api.OK)
		writes(t, d, 3)
		d.Arm(1)
		write(t, d, 1, full(4), api.ErrDown)
		dark(t, d, 2)
		return d
	}
	reads(t, crashed(hit(), 64), full(3), full(4))
	reads(t, crashed(hit(), 5, 6), torn(full(1), full(3), 5), torn(full(2), full(4), 6))
	reads(t, crashed(hit()), full(1), full(2))
	d := hit()
	d.Start() // a Write that is done is loose: it goes with the power
	reads(t, d, full(1), full(2))
	reads(t, crashed(d, 64), full(1), full(2))
}

func TestSyncThatIsHitDoesNothing(t *testing.T) {
	hit := func() *disk.Disk {
		d := made(t, 2)
		writes(t, d, 1, 2)
		syncs(t, d, api.OK)
		writes(t, d, 3, 4)
		d.Arm(1)
		syncs(t, d, api.ErrDown)
		dark(t, d, 2)
		return d
	}
	reads(t, crashed(hit(), 5, 6), torn(full(1), full(3), 5), torn(full(2), full(4), 6))
	reads(t, crashed(hit()), full(1), full(2))
	reads(t, crashed(hit(), 64), full(3), full(4))
	d := hit()
	d.Start()
	reads(t, d, full(1), full(2))
}

func TestNothingIsArmedBehindAHit(t *testing.T) {
	d := made(t, 1)
	d.Arm(1)
	syncs(t, d, api.ErrDown)
	d.Start()
	for range 4 {
		write(t, d, 0, full(1), api.OK)
		syncs(t, d, api.OK)
	}
	reads(t, d, full(1))
}

func TestCrashOfTheExample(t *testing.T) {
	d := made(t, 1)
	write(t, d, 0, full(1), api.OK)
	d.Crash([]int{3})
	d.Start()
	reads(t, d, sector{1, 1, 1})
}

func TestCrashKeepsBeginnings(t *testing.T) {
	for n := -2; n <= 66; n++ {
		d := made(t, 2)
		writes(t, d, 7)
		syncs(t, d, api.OK)
		writes(t, d, 9, 8)
		d.Crash([]int{n})
		dark(t, d, 2)
		d.Start()
		stays := min(max(n, 0), 64)
		reads(t, d, torn(full(7), full(9), stays), torn(full(0), full(8), stays))
	}
}

func TestCrashTakesKeepsInTurn(t *testing.T) {
	for _, keep := range [][]int{
		nil, {}, {0}, {1}, {64}, {5, 6}, {5, 6, 7}, {5, 6, 7, 8}, {5, 6, 7, 8, 9, 10}, // none, fewer than loose sectors, as many, more
		{-1}, {65}, {math.MinInt, math.MaxInt}, {math.MaxInt, math.MinInt, 64}, {63, 64, 65, -1, 0, 1},
	} {
		d := made(t, 7)
		writes(t, d, 1, 2, 3, 4, 5, 6, 7)
		syncs(t, d, api.OK)
		want := []sector{full(1), full(2), full(3), full(4), full(5), full(6), full(7)}
		for _, at := range []int{6, 1, 4, 3} { // by rising numbers, not as they were written
			write(t, d, at, full(0x10+byte(at)), api.OK)
		}
		for i, at := range []int{1, 3, 4, 6} {
			if len(keep) > 0 {
				want[at] = torn(want[at], full(0x10+byte(at)), min(max(keep[i%len(keep)], 0), 64))
			}
		}
		reads(t, crashed(d, keep...), want...)
	}
}

func TestCrashOfAllSectors(t *testing.T) {
	d, want := made(t, api.MaxSectors), make([]sector, api.MaxSectors)
	keep := []int{0, 1, 13, 63, 64, -5, 99}
	for at := range want {
		b := full(byte(at%255 + 1))
		write(t, d, at, b, api.OK)
		want[at] = torn(full(0), b, min(max(keep[at%len(keep)], 0), 64))
	}
	reads(t, crashed(d, keep...), want...)
}

// Behind a crash all is sure: another one, with or without power, changes nothing of it.
func TestCrashLeavesAllSure(t *testing.T) {
	d := made(t, 3)
	writes(t, d, 1, 2, 3)
	d.Crash([]int{4, 5})
	for _, keep := range [][]int{nil, {64}, {0}, {9, 10, 11}} {
		d.Crash(keep)
		dark(t, d, 3)
	}
	d.Start()
	want := []sector{torn(full(0), full(1), 4), torn(full(0), full(2), 5), torn(full(0), full(3), 4)}
	reads(t, d, want...)
	reads(t, crashed(d, 64), want...)
	reads(t, crashed(d), want...)
	write(t, d, 1, full(8), api.OK)
	want[1] = torn(want[1], full(8), 2)
	reads(t, crashed(d, 2, 64, 64), want...) // one alone is loose
}

func TestCrashWherePowerIsOffAlready(t *testing.T) {
	d := made(t, 2)
	writes(t, d, 1)
	d.Arm(1)
	write(t, d, 1, full(2), api.ErrDown)
	d.Crash([]int{10, 20}) // what was loose when power went is so still
	dark(t, d, 2)
	d.Start()
	reads(t, d, torn(full(0), full(1), 10), torn(full(0), full(2), 20))
}

func TestCrashLeavesNothingArmed(t *testing.T) {
	d := made(t, 1)
	d.Arm(1)
	reads(t, crashed(d), full(0))
	write(t, d, 0, full(1), api.OK)
	syncs(t, d, api.OK)
	reads(t, d, full(1))
}

func TestStartWherePowerIsOn(t *testing.T) {
	d := made(t, 2)
	d.Start()
	writes(t, d, 1, 2)
	syncs(t, d, api.OK)
	writes(t, d, 3, 4)
	d.Arm(2)
	d.Start()
	reads(t, d, full(3), full(4))
	write(t, d, 1, full(5), api.OK)
	d.Start()
	write(t, d, 1, full(6), api.ErrDown) // what was armed is armed still
	d.Crash([]int{7, 8})                 // what was loose is loose still
	d.Start()
	reads(t, d, torn(full(1), full(3), 7), torn(full(2), full(6), 8))
}

func TestStartTwice(t *testing.T) {
	d := made(t, 1)
	write(t, d, 0, full(1), api.OK)
	d.Crash([]int{8})
	d.Start()
	d.Start()
	reads(t, d, torn(full(0), full(1), 8))
	write(t, d, 0, full(2), api.OK)
	d.Start()
	reads(t, d, full(2))
}

// deeds are what can be done to a disk of 3 sectors, each telling what was answered.
func deeds() map[string]func(*disk.Disk) string {
	told := func(err api.Errno) string { return fmt.Sprint(err) }
	return map[string]func(*disk.Disk) string{
		"Write(0)":       func(d *disk.Disk) string { return told(d.Write(0, full(1))) },
		"Write(2)":       func(d *disk.Disk) string { return told(d.Write(2, full(2))) },
		"Write(0) anew":  func(d *disk.Disk) string { return told(d.Write(0, full(3))) },
		"Write(-1)":      func(d *disk.Disk) string { return told(d.Write(-1, full(4))) },
		"Write(3)":       func(d *disk.Disk) string { return told(d.Write(3, full(5))) },
		"Sync":           func(d *disk.Disk) string { return told(d.Sync()) },
		"Arm(0)":         func(d *disk.Disk) string { d.Arm(0); return "" },
		"Arm(1)":         func(d *disk.Disk) string { d.Arm(1); return "" },
		"Arm(2)":         func(d *disk.Disk) string { d.Arm(2); return "" },
		"Crash([])":      func(d *disk.Disk) string { d.Crash(nil); return "" },
		"Crash([5 -1])":  func(d *disk.Disk) string { d.Crash([]int{5, -1}); return "" },
		"Crash([9 64])":  func(d *disk.Disk) string { d.Crash([]int{9, 64}); return "" },
		"Start":          func(d *disk.Disk) string { d.Start(); return "" },
		"Read and so on": shown,
	}
}

// shown is all that can be asked of a disk of 3 sectors without changing it.
func shown(d *disk.Disk) string {
	s := fmt.Sprint(d.Len(), d.Down())
	for at := -1; at <= 3; at++ {
		b, err := d.Read(at)
		s += fmt.Sprintf(" %d:%x", err, b)
	}
	return s
}

// probe is what d tells of itself, and what it would do: how it is armed, what is loose and what is sure. It uses d up.
func probe(d *disk.Disk) string {
	s := shown(d)
	for range 3 {
		s += fmt.Sprint(" ", d.Write(1, full(0xaa)))
	}
	d.Crash([]int{11, 22, 33})
	d.Start()
	return s + shown(d)
}

// Behind any three deeds a fork is alike: each deed is answered alike by both, and behind it both are alike.
func TestForkIsAlikeInAll(t *testing.T) {
	all := deeds()
	names := slices.Sorted(maps.Keys(all))
	for i := range len(names) * len(names) * len(names) {
		d := made(t, 3)
		path := []string{names[i%len(names)], names[i/len(names)%len(names)], names[i/len(names)/len(names)]}
		for _, name := range path {
			f := d.Fork()
			if got, want := all[name](f), all[name](d); got != want {
				t.Fatalf("%q: the fork answers %s, not %s to %s", path, got, want, name)
			}
			again, elder := f.Fork(), d.Fork()
			if got, want := probe(f), probe(elder); got != want {
				t.Fatalf("%q: the fork's behind %s: %s, not %s", path, name, got, want)
			}
			d = again // what was done to the fork and to its own forks left it alone
		}
	}
}

// What is done to a disk or to its fork changes nothing of the other one.
func TestForkIsAnotherOne(t *testing.T) {
	all := deeds()
	names := slices.Sorted(maps.Keys(all))
	for _, first := range names {
		for _, second := range names {
			for _, then := range names {
				d := made(t, 3)
				write(t, d, 1, full(0x77), api.OK)
				all[first](d)
				all[second](d)
				want := probe(d.Fork())
				f := d.Fork()
				all[then](f)
				probe(f)
				if got := probe(d.Fork()); got != want {
					t.Fatalf("%s, %s: what is done to a fork (%s) changes the disk: %s, not %s", first, second, then, got, want)
				}
				f = d.Fork()
				all[then](d)
				probe(d)
				if got := probe(f); got != want {
					t.Fatalf("%s, %s: what is done to the disk (%s) changes its fork: %s, not %s", first, second, then, got, want)
				}
			}
		}
	}
}

func TestForkOfAllSectors(t *testing.T) {
	d, want := made(t, api.MaxSectors), make([]sector, api.MaxSectors)
	for at := range want {
		want[at] = full(byte(at))
		write(t, d, at, want[at], api.OK)
	}
	f := d.Fork()
	d.Crash(nil)
	reads(t, f, want...)
	dark(t, d, api.MaxSectors)
	syncs(t, f, api.OK)
	reads(t, crashed(f), want...)
}

// R3

func TestWhatIsHandedInStays(t *testing.T) {
	b, d := full(3), made(t, 2)
	write(t, d, 0, b, api.OK)
	if b != full(3) {
		t.Errorf("Write changes what it is given: %x", b)
	}
	b[0], b[63] = 9, 9
	reads(t, d, full(3), full(0))

	room := []int{70, -3, 5, 1000, 2000}
	keep := room[:3:4]
	write(t, d, 1, full(4), api.OK)
	d.Crash(keep)
	if !slices.Equal(room, []int{70, -3, 5, 1000, 2000}) {
		t.Errorf("Crash changes what it is given: %v", room)
	}
	for i := range room {
		room[i] = 64
	}
	d.Start()
	reads(t, d, full(3), full(0))
}

// The room behind the keeps' end is no keep.
func TestRoomBehindKeepsPlaysNoPart(t *testing.T) {
	room := []int{6, 64, 64}
	d := made(t, 2)
	writes(t, d, 1, 2)
	reads(t, crashed(d, room[:1]...), torn(full(0), full(1), 6), torn(full(0), full(2), 6))
	writes(t, d, 3, 4)
	d.Crash(room[:0])
	d.Start()
	reads(t, d, torn(full(0), full(1), 6), torn(full(0), full(2), 6))
}

func TestWhatIsHandedOutStays(t *testing.T) {
	d := made(t, 1)
	for range 3 { // loose, sure, behind a crash
		write(t, d, 0, full(1), api.OK)
		b, _ := d.Read(0)
		again := b
		b[0] = 9
		reads(t, d, full(1))
		syncs(t, d, api.OK)
		reads(t, d, full(1))
		reads(t, crashed(d, 64), full(1))
		write(t, d, 0, full(2), api.OK)
		if again != full(1) {
			t.Errorf("a later Write changes what was read: %x", again)
		}
	}
}

// R2

func TestDisksAreApart(t *testing.T) {
	a, b := made(t, 2), made(t, 2)
	write(t, a, 0, full(1), api.OK)
	b.Arm(1)
	write(t, a, 1, full(2), api.OK)
	a.Crash([]int{64})
	reads(t, b, full(0), full(0))
	write(t, b, 0, full(3), api.ErrDown)
	a.Start()
	reads(t, a, full(1), full(2))
	dark(t, b, 2)
}

// plain is P6.1 and P6.2 word by word: what is sure, and beside it what was written since, by numbers.
type plain struct {
	sure  []sector
	since map[int]sector
	off   bool
	armed int
}

func (p *plain) now(at int) sector {
	if b, loose := p.since[at]; loose {
		return b
	}
	return p.sure[at]
}

// hit tells whether a call that would be done is the one that is hit.
func (p *plain) hit() bool {
	p.armed--
	if p.armed == 0 {
		p.off = true
	}
	return p.off
}

func (p *plain) write(at int, b sector) api.Errno {
	switch {
	case p.off:
		return api.ErrDown
	case at < 0 || at >= len(p.sure):
		return api.ErrArg
	}
	p.since[at] = b
	if p.hit() {
		return api.ErrDown
	}
	return api.OK
}

func (p *plain) sync() api.Errno {
	if p.off || p.hit() {
		return api.ErrDown
	}
	for at, b := range p.since {
		p.sure[at] = b
	}
	clear(p.since)
	return api.OK
}

func (p *plain) crash(keep []int) {
	for i, at := range slices.Sorted(maps.Keys(p.since)) {
		for n := range 64 {
			if len(keep) > 0 && n < keep[i%len(keep)] {
				p.sure[at][n] = p.since[at][n]
			}
		}
	}
	clear(p.since)
	p.off, p.armed = true, 0
}

func (p *plain) start() {
	if p.off {
		clear(p.since)
		p.off, p.armed = false, 0
	}
}

// alike holds d against p.
func (p *plain) alike(t *testing.T, d *disk.Disk) {
	t.Helper()
	if d.Down() != p.off || d.Len() != len(p.sure) {
		t.Fatalf("Down: %v, Len: %d; want %v, %d", d.Down(), d.Len(), p.off, len(p.sure))
	}
	for at := -1; at <= len(p.sure); at++ {
		want, err := sector{}, api.OK
		switch {
		case p.off:
			err = api.ErrDown
		case at < 0 || at >= len(p.sure):
			err = api.ErrArg
		default:
			want = p.now(at)
		}
		if b, e := d.Read(at); b != want || e != err {
			t.Fatalf("Read(%d): %x, error %d; want %x, error %d", at, b, e, want, err)
		}
	}
}

// step is one deed of r, done to both; what the disk is behind it.
func (p *plain) step(t *testing.T, r *rand.Rand, d *disk.Disk) *disk.Disk {
	t.Helper()
	switch r.Intn(10) {
	case 0, 1, 2, 3:
		var b sector
		r.Read(b[:])
		at := r.Intn(len(p.sure)+2) - 1
		if err, want := d.Write(at, b), p.write(at, b); err != want {
			t.Fatalf("Write(%d): error %d, want %d", at, err, want)
		}
	case 4:
		if err, want := d.Sync(), p.sync(); err != want {
			t.Fatalf("Sync: error %d, want %d", err, want)
		}
	case 5:
		p.armed = r.Intn(9) - 2
		d.Arm(p.armed)
		p.armed = max(p.armed, 0)
	case 6:
		keep := make([]int, r.Intn(5))
		for i := range keep {
			keep[i] = r.Intn(90) - 13
		}
		d.Crash(keep)
		p.crash(keep)
	case 7, 8:
		d.Start()
		p.start()
	case 9:
		f := d.Fork()
		f.Write(0, full(0xfe))
		f.Sync()
		f.Crash(nil)
		f, d = d, d.Fork()
		f.Start()
		f.Arm(0)
		f.Write(0, full(0xfd))
		f.Sync()
	}
	return d
}

func TestPlaysOfAllKinds(t *testing.T) {
	r := rand.New(rand.NewSource(1))
	for range 400 {
		n := 1 + r.Intn(8)
		d := made(t, n)
		p := &plain{sure: make([]sector, n), since: map[int]sector{}}
		for range 120 {
			d = p.step(t, r, d)
			p.alike(t, d)
		}
	}
}

// What was sure is there behind any crash; of what was loose there is a beginning, sector by sector.
func TestWhatFollows(t *testing.T) {
	r := rand.New(rand.NewSource(2))
	var lengths []int
	for n := range 65 {
		lengths = append(lengths, n)
	}
	for range 500 {
		n := 1 + r.Intn(6)
		d, sure, since := made(t, n), make([]sector, n), map[int]sector{}
		for at := range sure {
			r.Read(sure[at][:])
			write(t, d, at, sure[at], api.OK)
		}
		syncs(t, d, api.OK)
		for range r.Intn(6) {
			var b sector
			r.Read(b[:])
			at := r.Intn(n)
			write(t, d, at, b, api.OK)
			since[at] = b
		}
		crashed(d, r.Intn(65), r.Intn(65), r.Intn(65))
		for at := range sure {
			got, err := d.Read(at)
			b, loose := since[at]
			begins := func(k int) bool { return got == torn(sure[at], b, k) }
			if err != api.OK || !loose && got != sure[at] || loose && !slices.ContainsFunc(lengths, begins) {
				t.Fatalf("sector %d: %x, error %d; sure: %x, written since: %x (%v)", at, got, err, sure[at], b, loose)
			}
		}
	}
}
