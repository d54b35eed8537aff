package pack_test

import (
	"bytes"
	"encoding/binary"
	"math"
	"math/rand"
	"slices"
	"strings"
	"testing"

	"haberdash/api"
	"haberdash/pack"
)

// written is what a new writer has behind those calls.
func written(calls ...func(*pack.Writer)) []byte {
	var w pack.Writer
	for _, call := range calls {
		call(&w)
	}
	return w.Bytes()
}

func num(v int64) func(*pack.Writer)   { return func(w *pack.Writer) { w.Num(v) } }
func text(s string) func(*pack.Writer) { return func(w *pack.Writer) { w.Text(s) } }
func flag(is bool) func(*pack.Writer)  { return func(w *pack.Writer) { w.Flag(is) } }

// numbers are all at and around which a number has one byte more, with the ends of 64 bits.
func numbers() []int64 {
	l := []int64{0, 1, 2, 300, api.MaxMoney, math.MaxInt64 - 1, math.MaxInt64}
	for bits := 7; bits < 63; bits += 7 {
		l = append(l, 1<<bits-2, 1<<bits-1, 1<<bits, 1<<bits+1)
	}
	return l
}

// belowNothing are numbers that none can be written of.
func belowNothing() []int64 {
	return []int64{-1, -2, -127, -128, -300, -api.MaxMoney, math.MinInt64 + 1, math.MinInt64}
}

// P4.1

func TestNumWrites(t *testing.T) {
	for v, want := range map[int64]string{
		0: "\x00", 1: "\x01", 9: "\x09", 127: "\x7f", 128: "\x80\x01", 129: "\x81\x01", 255: "\xff\x01", 256: "\x80\x02",
		300: "\xac\x02", 16_383: "\xff\x7f", 16_384: "\x80\x80\x01", 2_097_151: "\xff\xff\x7f", 2_097_152: "\x80\x80\x80\x01",
		1<<56 - 1:         "\xff\xff\xff\xff\xff\xff\xff\x7f",     // the greatest of eight bytes
		1 << 56:           "\x80\x80\x80\x80\x80\x80\x80\x80\x01", // the least of nine
		math.MaxInt64 - 1: "\xfe\xff\xff\xff\xff\xff\xff\xff\x7f",
		math.MaxInt64:     "\xff\xff\xff\xff\xff\xff\xff\xff\x7f",
	} {
		if got := written(num(v)); string(got) != want {
			t.Errorf("Num(%d): %x, want %x", v, got, want)
		}
	}
}

func TestNumWritesTheGroupsOfAllEdges(t *testing.T) {
	for _, v := range numbers() {
		if got, want := written(num(v)), binary.AppendUvarint(nil, uint64(v)); !bytes.Equal(got, want) {
			t.Errorf("Num(%d): %x, want %x", v, got, want)
		}
	}
}

func TestNumWritesNothingBelow0(t *testing.T) {
	for _, v := range belowNothing() {
		if got := written(num(v)); string(got) != "\x00" {
			t.Errorf("Num(%d): %x, want 00", v, got)
		}
	}
}

func TestTextWrites(t *testing.T) {
	for name, x := range map[string]struct{ s, want string }{
		"the example":           {"ab", "\x02ab"},
		"an empty text":         {"", "\x00"},
		"a byte 0":              {"\x00", "\x01\x00"},
		"bytes, and not runes":  {"é", "\x02\xc3\xa9"},
		"bytes that are no UTF": {"\xff\x80\xfe", "\x03\xff\x80\xfe"},
		"127 bytes":             {strings.Repeat("x", 127), "\x7f" + strings.Repeat("x", 127)},
		"128 bytes":             {strings.Repeat("x", 128), "\x80\x01" + strings.Repeat("x", 128)},
		"MaxRecord bytes":       {strings.Repeat("y", api.MaxRecord), "\x80\xb5\x18" + strings.Repeat("y", api.MaxRecord)},
	} {
		if got := written(text(x.s)); string(got) != x.want {
			t.Errorf("%s: Text of %d bytes: %d bytes that begin with %x", name, len(x.s), len(got), got[:min(len(got), 8)])
		}
	}
}

func TestFlagWrites(t *testing.T) {
	if got := written(flag(true), flag(false), flag(true)); string(got) != "\x01\x00\x01" {
		t.Errorf("Flag of true, false, true: %x", got)
	}
}

func TestBytesIsAllThatWasWritten(t *testing.T) {
	var w pack.Writer
	if got := w.Bytes(); len(got) != 0 {
		t.Errorf("Bytes of a writer that has written nothing: %x", got)
	}
	want := ""
	for _, x := range []struct {
		call func(*pack.Writer)
		more string
	}{{num(300), "\xac\x02"}, {text("ab"), "\x02ab"}, {flag(true), "\x01"}, {num(-7), "\x00"}, {text(""), "\x00"}, {flag(false), "\x00"}, {num(5), "\x05"}} {
		x.call(&w)
		want += x.more
		for range 2 { // asking changes nothing
			if got := w.Bytes(); string(got) != want {
				t.Fatalf("Bytes: %x, want %x", got, want)
			}
		}
	}
}

func TestWriterOfNil(t *testing.T) {
	var w *pack.Writer
	for _, call := range []func(*pack.Writer){num(0), num(1), num(-1), num(math.MaxInt64), text(""), text("ab"), flag(true), flag(false)} {
		call(w)
		if got := w.Bytes(); len(got) != 0 {
			t.Errorf("Bytes of a nil writer: %x", got)
		}
	}
}

func TestWritersBesideEachOther(t *testing.T) {
	var v, w pack.Writer
	v.Num(1)
	w.Text("w")
	v.Flag(true)
	w.Num(300)
	v.Text("v")
	if string(v.Bytes()) != "\x01\x01\x01v" || string(w.Bytes()) != "\x01w\xac\x02" {
		t.Errorf("two writers: %x and %x", v.Bytes(), w.Bytes())
	}
}

// R3: neither side sees what the other one writes into Bytes, nor into the room behind its end.
func TestBytesIsNewMemory(t *testing.T) {
	var w pack.Writer
	w.Text("abc")
	first, second := w.Bytes(), w.Bytes()
	whole := first[:cap(first)]
	for i := range whole {
		whole[i] = 0xee
	}
	if string(second) != "\x03abc" || string(w.Bytes()) != "\x03abc" {
		t.Errorf("writing into Bytes: another answer is %x, the writer's is %x", second, w.Bytes())
	}
	w.Text("de")
	if string(w.Bytes()) != "\x03abc\x02de" || string(second) != "\x03abc" || whole[0] != 0xee {
		t.Errorf("writing on: %x, and what was handed out: %x, %x", w.Bytes(), second, first)
	}
	for _, b := range whole[len(first):] {
		if b != 0xee {
			t.Error("writing on writes behind the end of what was handed out")
		}
	}
}

// P4.2

// faulty holds that r has that fault, and that nothing takes it away, or reads on behind it.
func faulty(t *testing.T, r *pack.Reader, fault api.Errno) {
	t.Helper()
	for range 2 {
		if e := r.Err(); e != fault {
			t.Errorf("Err: %d, want %d", e, fault)
		}
		if v := r.Num(math.MinInt64, math.MaxInt64); v != 0 {
			t.Errorf("Num behind a fault: %d", v)
		}
		if s := r.Text(math.MaxInt); s != "" {
			t.Errorf("Text behind a fault: %q", s)
		}
		if r.Flag() {
			t.Error("Flag behind a fault: true")
		}
		if e := r.End(); e != fault {
			t.Errorf("End: %d, want %d", e, fault)
		}
	}
}

func TestNumReads(t *testing.T) {
	for _, v := range append(numbers(), 3, 64, 12_345) {
		b := binary.AppendUvarint(nil, uint64(v))
		for _, behind := range []string{"", "\x00", "\x01", "\x80", "\xff\xff\xff\xff\xff\xff\xff\xff\xff"} {
			r := pack.Read(append(slices.Clone(b), behind...))
			if got := r.Num(0, math.MaxInt64); got != v || r.Err() != api.OK {
				t.Errorf("Num of %x, behind it %x: %d, error %d; want %d", b, behind, got, r.Err(), v)
			}
			if e := r.End(); (e == api.OK) != (behind == "") {
				t.Errorf("End behind Num of %x, behind it %x: %d", b, behind, e)
			}
		}
	}
}

func TestNumFaults(t *testing.T) {
	go128 := func(n int) string { return strings.Repeat("\x80", n) }
	go255 := func(n int) string { return strings.Repeat("\xff", n) }
	for name, x := range map[string]struct {
		b string
		e api.Errno
	}{
		"no bytes":                                  {"", api.ErrShort},
		"one that goes on":                          {"\x80", api.ErrShort},
		"one of 255":                                {"\xff", api.ErrShort},
		"two that go on":                            {"\xac\x82", api.ErrShort},
		"eight that go on":                          {go128(8), api.ErrShort},
		"eight of 255":                              {go255(8), api.ErrShort},
		"nine that go on: form, and not short":      {go128(9), api.ErrForm},
		"nine of 255":                               {go255(9), api.ErrForm},
		"nine that go on, and a last one":           {go128(9) + "\x01", api.ErrForm},
		"nine that go on, and a last one of 0":      {go128(9) + "\x00", api.ErrForm},
		"nine of 255, and the one more of 64 bits":  {go255(9) + "\x01", api.ErrForm},
		"ten that go on":                            {go128(10), api.ErrForm},
		"twenty that go on":                         {go255(20), api.ErrForm},
		"a last byte of 0 behind one":               {"\x80\x00", api.ErrForm},
		"a last byte of 0 behind a 5":               {"\x85\x00", api.ErrForm},
		"a last byte of 0 behind two":               {"\xff\xff\x00", api.ErrForm},
		"a last byte of 0 as the eighth":            {go255(7) + "\x00", api.ErrForm},
		"a last byte of 0 as the ninth":             {go255(8) + "\x00", api.ErrForm},
		"a last byte of 0, a right number behind":   {"\x80\x00\x05", api.ErrForm},
		"two last bytes of 0, behind one":           {"\x81\x00\x00", api.ErrForm},
		"0 behind what goes on, as the last of all": {go128(3) + "\x00", api.ErrForm},
	} {
		r := pack.Read([]byte(x.b))
		if v := r.Num(math.MinInt64, math.MaxInt64); v != 0 || r.Err() != x.e {
			t.Errorf("%s: Num of %x: %d, error %d; want error %d", name, x.b, v, r.Err(), x.e)
		}
		faulty(t, r, x.e)
	}
}

func TestNumOfEightAndNineBytes(t *testing.T) {
	for b, want := range map[string]int64{
		strings.Repeat("\x80", 7) + "\x01": 1 << 49, strings.Repeat("\xff", 7) + "\x7f": 1<<56 - 1,
		strings.Repeat("\x80", 8) + "\x01": 1 << 56, strings.Repeat("\x80", 8) + "\x40": 1 << 62, strings.Repeat("\xff", 8) + "\x7f": math.MaxInt64,
	} {
		r := pack.Read([]byte(b))
		if v := r.Num(0, math.MaxInt64); v != want || r.End() != api.OK {
			t.Errorf("Num of %x: %d, error %d; want %d", b, v, r.End(), want)
		}
	}
}

func TestNumFromLeastToMost(t *testing.T) {
	ends := append(numbers(), belowNothing()...)
	for _, v := range numbers() {
		b := binary.AppendUvarint(nil, uint64(v))
		for _, least := range ends {
			for _, most := range ends { // some of them below least: nothing is from there to there
				want, e := int64(0), api.ErrForm
				if least <= v && v <= most {
					want, e = v, api.OK
				}
				r := pack.Read(b)
				if got := r.Num(least, most); got != want || r.Err() != e || r.End() != e {
					t.Errorf("Num(%d, %d) of %d: %d, error %d; want %d, error %d", least, most, v, got, r.Err(), want, e)
				}
			}
		}
	}
}

func TestNumOfNothingButAWrongRange(t *testing.T) {
	for _, b := range []string{"", "\x80", strings.Repeat("\xff", 8)} { // the bytes' end is named ahead of the range
		r := pack.Read([]byte(b))
		if v := r.Num(1, 0); v != 0 || r.Err() != api.ErrShort {
			t.Errorf("Num(1, 0) of %x: %d, error %d; want ErrShort", b, v, r.Err())
		}
	}
}

func TestTextReads(t *testing.T) {
	for name, x := range map[string]struct {
		b    string
		most int
		s    string
	}{
		"the example":                    {"\x02ab", 2, "ab"},
		"most above":                     {"\x02ab", 3, "ab"},
		"the greatest most":              {"\x02ab", math.MaxInt, "ab"},
		"an empty text":                  {"\x00", 5, ""},
		"an empty text, most 0":          {"\x00", 0, ""},
		"a byte 0":                       {"\x01\x00", 1, "\x00"},
		"bytes that are no UTF":          {"\x03\xff\x80\xfe", 3, "\xff\x80\xfe"},
		"bytes that look like a number":  {"\x09\xff\xff\xff\xff\xff\xff\xff\xff\xff", 9, strings.Repeat("\xff", 9)},
		"a length of two bytes":          {"\x80\x01" + strings.Repeat("z", 128), 128, strings.Repeat("z", 128)},
		"the greatest text of a command": {"\xa0\x9c\x01" + strings.Repeat("z", api.MaxBytes), api.MaxBytes, strings.Repeat("z", api.MaxBytes)},
	} {
		r := pack.Read([]byte(x.b))
		if s := r.Text(x.most); s != x.s || r.Err() != api.OK || r.End() != api.OK {
			t.Errorf("%s: Text(%d): %d bytes, error %d; want %d", name, x.most, len(s), r.End(), len(x.s))
		}
		r = pack.Read([]byte(x.b + "\x07"))
		if s := r.Text(x.most); s != x.s || r.End() != api.ErrForm || r.Num(0, 9) != 7 || r.End() != api.OK {
			t.Errorf("%s, a number behind it: Text(%d): %d bytes, error %d; want %d", name, x.most, len(s), r.End(), len(x.s))
		}
	}
}

func TestTextFaults(t *testing.T) {
	for name, x := range map[string]struct {
		b    string
		most int
		e    api.Errno
	}{
		"no bytes":                                  {"", 9, api.ErrShort},
		"no bytes, most 0":                          {"", 0, api.ErrShort},
		"no bytes, most below 0":                    {"", -1, api.ErrShort},
		"the end within its length":                 {"\x80", 200, api.ErrShort},
		"the end behind its length":                 {"\x02", 9, api.ErrShort},
		"the end within it":                         {"\x02a", 9, api.ErrShort},
		"one byte too few, of many":                 {"\x80\x01" + strings.Repeat("z", 127), 200, api.ErrShort},
		"longer than most":                          {"\x02ab", 1, api.ErrForm},
		"longer than most 0":                        {"\x01a", 0, api.ErrForm},
		"most below 0":                              {"\x00", -1, api.ErrForm},
		"most far below 0":                          {"\x02ab", math.MinInt, api.ErrForm},
		"longer than most, and the end: form first": {"\x09ab", 8, api.ErrForm},
		"a length that fewer bytes could say":       {"\x82\x00ab", 9, api.ErrForm},
		"likewise, and the end":                     {"\x82\x00", 9, api.ErrForm},
		"a length of nine that go on":               {strings.Repeat("\x80", 9), 9, api.ErrForm},
		"the greatest length":                       {strings.Repeat("\xff", 8) + "\x7fab", math.MaxInt, api.ErrShort},
		"a length of 2^62":                          {strings.Repeat("\x80", 8) + "\x40ab", math.MaxInt, api.ErrShort},
		"a length of 2^32":                          {"\x80\x80\x80\x80\x10", math.MaxInt, api.ErrShort},
	} {
		r := pack.Read([]byte(x.b))
		if s := r.Text(x.most); s != "" || r.Err() != x.e {
			t.Errorf("%s: Text(%d) of %x: %q, error %d; want error %d", name, x.most, x.b, s, r.Err(), x.e)
		}
		faulty(t, r, x.e)
	}
}

func TestFlagReads(t *testing.T) {
	r := pack.Read([]byte("\x01\x00\x01"))
	if !r.Flag() || r.Flag() || !r.Flag() || r.End() != api.OK {
		t.Errorf("Flags of 1, 0, 1: error %d", r.End())
	}
	for b, e := range map[string]api.Errno{
		"": api.ErrShort, "\x80": api.ErrShort, "\x02": api.ErrForm, "\x7f": api.ErrForm, "\x81\x00": api.ErrForm, "\x81\x01": api.ErrForm,
		"\xff\xff\xff\xff\xff\xff\xff\xff\xff": api.ErrForm,
	} {
		r := pack.Read([]byte(b))
		if r.Flag() {
			t.Errorf("Flag of %x: true", b)
		}
		faulty(t, r, e)
	}
}

func TestTheFirstFaultStays(t *testing.T) {
	for name, x := range map[string]struct {
		b     string
		fault func(*pack.Reader)
		e     api.Errno
	}{
		"out of range, a right number behind":  {"\x05\x06", func(r *pack.Reader) { r.Num(0, 4) }, api.ErrForm},
		"out of range, nothing behind":         {"\x05", func(r *pack.Reader) { r.Num(6, 9) }, api.ErrForm},
		"too long a text, right things behind": {"\x03\x01\x00\x01\x05", func(r *pack.Reader) { r.Text(2) }, api.ErrForm},
		"no flag, a right one behind":          {"\x02\x01", func(r *pack.Reader) { r.Flag() }, api.ErrForm},
		"a last byte of 0, a flag behind":      {"\x80\x00\x01", func(r *pack.Reader) { r.Num(0, 9) }, api.ErrForm},
		"short, and then what has no form":     {"\x80", func(r *pack.Reader) { r.Num(0, 9); r.Num(1, 0) }, api.ErrShort},
		"a short text of bytes like numbers":   {"\x05\x01\x01", func(r *pack.Reader) { r.Text(9) }, api.ErrShort},
		"a short text of bytes without form":   {"\x05\x80\x00", func(r *pack.Reader) { r.Text(9); r.Num(0, 9) }, api.ErrShort},
		"behind right things":                  {"\x05\x01a\x01\x09", func(r *pack.Reader) { r.Num(5, 5); r.Text(1); r.Flag(); r.Flag() }, api.ErrForm},
		"at the end":                           {"\x05", func(r *pack.Reader) { r.Num(5, 5); r.Flag() }, api.ErrShort},
	} {
		t.Run(name, func(t *testing.T) {
			r := pack.Read([]byte(x.b))
			x.fault(r)
			faulty(t, r, x.e)
		})
	}
}

func TestEnd(t *testing.T) {
	for _, b := range [][]byte{nil, {}} {
		r := pack.Read(b)
		if r.Err() != api.OK || r.End() != api.OK {
			t.Errorf("of no bytes: Err %d, End %d", r.Err(), r.End())
		}
		r.Num(0, 9)
		faulty(t, r, api.ErrShort)
	}
	r := pack.Read([]byte("\x05\x06"))
	for _, want := range []int64{5, 6} { // bytes that are left are no fault that stays
		if r.End() != api.ErrForm || r.End() != api.ErrForm || r.Err() != api.OK {
			t.Errorf("ahead of %d: End %d, Err %d", want, r.End(), r.Err())
		}
		if v := r.Num(0, 9); v != want {
			t.Errorf("Num behind End: %d, want %d", v, want)
		}
	}
	if r.End() != api.OK || r.Err() != api.OK {
		t.Errorf("behind all: End %d, Err %d", r.End(), r.Err())
	}
}

func TestReaderOfNil(t *testing.T) {
	faulty(t, nil, api.ErrNil)
	var r *pack.Reader
	if r.Num(0, 0) != 0 || r.Num(1, 0) != 0 || r.Text(0) != "" || r.Text(-1) != "" || r.Err() != api.ErrNil {
		t.Errorf("of nil: error %d", r.Err())
	}
}

// R1: it is no object of Read's, and yet no call may panic on it.
func TestReaderOfNothing(t *testing.T) {
	var r pack.Reader
	if r.Err() != api.OK || r.End() != api.OK {
		t.Errorf("Err %d, End %d", r.Err(), r.End())
	}
	if r.Text(9) != "" {
		t.Error("Text is not empty")
	}
	faulty(t, &r, api.ErrShort)
}

func TestReadersBesideEachOther(t *testing.T) {
	b := []byte("\x05\x06\x07")
	q, r := pack.Read(b), pack.Read(b)
	if q.Num(0, 9) != 5 || q.Num(0, 5) != 0 || r.Num(0, 9) != 5 || r.Num(0, 9) != 6 || r.Num(0, 9) != 7 || r.End() != api.OK {
		t.Errorf("two readers: errors %d and %d", q.End(), r.End())
	}
	faulty(t, q, api.ErrForm)
}

// R3: what is handed in is neither kept nor changed, nor is the room behind its end.
func TestReadKeepsNothing(t *testing.T) {
	room := []byte("\x05\x02ab\x01\xac\x02\x7e\x7e\x7e")
	r := pack.Read(room[:7])
	if r.Num(0, 9) != 5 {
		t.Error("Num is not 5")
	}
	for i := range room {
		room[i] = 0xee
	}
	s := r.Text(9)
	if s != "ab" || !r.Flag() || r.Num(0, 999) != 300 || r.End() != api.OK {
		t.Errorf("behind writing into what was handed in: %q, error %d", s, r.End())
	}
	for _, b := range room {
		if b != 0xee {
			t.Fatal("reading writes into what was handed in")
		}
	}
}

func TestReadingChangesNothing(t *testing.T) {
	room := []byte("\x05\x02ab\x01\x80\x00\x7e\x7e")
	was := slices.Clone(room)
	r := pack.Read(room[:7])
	r.Num(0, 9)
	r.Text(9)
	r.Flag()
	r.Num(0, 9)
	if !bytes.Equal(room, was) || r.Err() != api.ErrForm {
		t.Errorf("what was handed in is %x behind reading it, and was %x", room, was)
	}
}

// model is P4.2 word by word: what is left to read, and the fault.
type model struct {
	left  []byte
	fault api.Errno
}

func (m *model) num(least, most int64) int64 {
	if m.fault != api.OK {
		return 0
	}
	last := slices.IndexFunc(m.left, func(b byte) bool { return b < 128 })
	switch {
	case len(m.left) >= 9 && (last < 0 || last > 8):
		m.fault = api.ErrForm
	case last < 0:
		m.fault = api.ErrShort
	case last > 0 && m.left[last] == 0:
		m.fault = api.ErrForm
	}
	if m.fault != api.OK {
		return 0
	}
	u, size := binary.Uvarint(m.left)
	if v := int64(u); v >= least && v <= most {
		m.left = m.left[size:]
		return v
	}
	m.fault = api.ErrForm
	return 0
}

func (m *model) text(most int) string {
	n := m.num(0, int64(most))
	if n > int64(len(m.left)) {
		m.fault = api.ErrShort
		return ""
	}
	if m.fault != api.OK {
		return ""
	}
	s := string(m.left[:n])
	m.left = m.left[n:]
	return s
}

func (m *model) end() api.Errno {
	if m.fault == api.OK && len(m.left) > 0 {
		return api.ErrForm
	}
	return m.fault
}

// alike does one thing on both, told by pick, and holds the answers against each other. It tells what reading gave, written again.
func alike(t *testing.T, r *pack.Reader, m *model, pick int, least, most int64) func(*pack.Writer) {
	t.Helper()
	var again func(*pack.Writer)
	same := false
	switch pick % 3 {
	case 0:
		got := r.Num(least, most)
		same, again = got == m.num(least, most), num(got)
	case 1:
		got := r.Text(int(most))
		same, again = got == m.text(int(most)), text(got)
	case 2:
		got := r.Flag()
		same, again = got == (m.num(0, 1) == 1), flag(got)
	}
	if !same || r.Err() != m.fault || r.End() != m.end() {
		t.Fatalf("call %d (%d, %d), %x left: Err %d, End %d; want %d, %d", pick%3, least, most, m.left, r.Err(), r.End(), m.fault, m.end())
	}
	return again
}

func TestReaderOfAllLittleBytes(t *testing.T) {
	of := []byte{0, 1, 2, 0x7f, 0x80, 0x81, 0xff}
	ranges := [][2]int64{{0, math.MaxInt64}, {0, 2}, {1, 127}, {2, 1}, {128, 20_000}}
	var longer func(b []byte)
	longer = func(b []byte) {
		for pick := range 9 { // two calls, one behind the other
			for _, x := range ranges {
				r, m := pack.Read(b), &model{left: b}
				alike(t, r, m, pick, x[0], x[1])
				alike(t, r, m, pick/3, x[0], x[1])
			}
		}
		if len(b) == 4 {
			return
		}
		for _, x := range of {
			longer(append(b, x))
		}
	}
	longer(make([]byte, 0, 4))
}

// The chapter's 'What follows': what is read without a fault is written by just these bytes.
func TestReaderOfManyBytes(t *testing.T) {
	r := rand.New(rand.NewSource(42))
	whole := 0
	for range 100_000 {
		b := make([]byte, r.Intn(24))
		for i := range b {
			b[i] = []byte{0, 1, 2, 3, 0x7f, 0x80, 0x81, 0xff, byte(r.Intn(256))}[r.Intn(9)]
			if r.Intn(3) == 0 && i > 0 { // so that long numbers are no rarity
				b[i] = b[i-1] | 0x80
			}
		}
		in, m := pack.Read(b), &model{left: b}
		var calls []func(*pack.Writer)
		for range 1 + r.Intn(8) {
			most := []int64{0, 1, 5, 300, 1 << 56, math.MaxInt64}[r.Intn(6)]
			calls = append(calls, alike(t, in, m, r.Intn(3), int64(r.Intn(3))-1, most))
		}
		if in.Err() != api.OK {
			continue
		}
		whole++
		if got := written(calls...); !bytes.Equal(got, b[:len(b)-len(m.left)]) {
			t.Fatalf("what was read of %x is written as %x", b, got)
		}
	}
	if whole < 1_000 {
		t.Errorf("only %d were read without a fault: this holds too little", whole)
	}
}

// The chapter's 'What follows': what is written is read.
func TestWhatIsWrittenIsRead(t *testing.T) {
	r := rand.New(rand.NewSource(43))
	for range 2_000 {
		var calls []func(*pack.Writer)
		var reads []func(*pack.Reader) bool
		for range r.Intn(30) {
			v, is := r.Int63()>>r.Intn(63), r.Intn(2) == 1
			s := string(binary.BigEndian.AppendUint64(nil, r.Uint64())[:r.Intn(9)]) + strings.Repeat("s", r.Intn(2)*r.Intn(300))
			switch r.Intn(3) {
			case 0:
				calls, reads = append(calls, num(v)), append(reads, func(r *pack.Reader) bool { return r.Num(v, v) == v })
			case 1:
				calls, reads = append(calls, text(s)), append(reads, func(r *pack.Reader) bool { return r.Text(len(s)) == s })
			case 2:
				calls, reads = append(calls, flag(is)), append(reads, func(r *pack.Reader) bool { return r.Flag() == is })
			}
		}
		b := written(calls...)
		in := pack.Read(b)
		for i, read := range reads {
			if !read(in) || in.Err() != api.OK {
				t.Fatalf("the thing %d of %x is not read as it was written: error %d", i, b, in.Err())
			}
		}
		if in.End() != api.OK {
			t.Fatalf("End of %x: %d", b, in.End())
		}
	}
}

// All beginnings of what was written end within something, and are short of it.
func TestBeginningsAreShort(t *testing.T) {
	b := written(num(300), text("abc"), num(math.MaxInt64), text(""), flag(true), text(strings.Repeat("x", 130)))
	for n := range len(b) + 1 {
		r := pack.Read(b[:n])
		r.Num(0, 300)
		r.Text(3)
		r.Num(0, math.MaxInt64)
		r.Text(0)
		r.Flag()
		r.Text(130)
		want := api.ErrShort
		if n == len(b) {
			want = api.OK
		}
		if r.Err() != want || r.End() != want {
			t.Errorf("of %d bytes of %d: Err %d, End %d; want %d", n, len(b), r.Err(), r.End(), want)
		}
	}
}
