package wire_test

import (
	"bytes"
	"math"
	"math/big"
	"math/rand"
	"slices"
	"testing"

	"phalanx/api"
	"phalanx/wire"
)

// numberCase is a number without sign, and its bytes by hand.
type numberCase struct {
	n    uint64
	want string
}

var numbers = []numberCase{
	{0, "\x00"},
	{1, "\x01"},
	{127, "\x7f"},
	{128, "\x80\x01"},
	{255, "\xff\x01"},
	{256, "\x80\x02"},
	{300, "\xac\x02"},
	{16383, "\xff\x7f"},
	{16384, "\x80\x80\x01"},
	{1<<56 - 1, "\xff\xff\xff\xff\xff\xff\xff\x7f"},
	{1 << 56, "\x80\x80\x80\x80\x80\x80\x80\x80\x01"},
	{math.MaxInt64, "\xff\xff\xff\xff\xff\xff\xff\xff\x7f"},
	{1 << 63, "\x80\x80\x80\x80\x80\x80\x80\x80\x80\x01"},
	{math.MaxUint64, "\xff\xff\xff\xff\xff\xff\xff\xff\xff\x01"},
}

// signedCase is a number with sign, and its bytes by hand.
type signedCase struct {
	n    int64
	want string
}

var signeds = []signedCase{
	{0, "\x00"},
	{-1, "\x01"},
	{1, "\x02"},
	{-2, "\x03"},
	{63, "\x7e"},
	{-64, "\x7f"},
	{64, "\x80\x01"},
	{-65, "\x81\x01"},
	{127, "\xfe\x01"},
	{128, "\x80\x02"},
	{-128, "\xff\x01"},
	{math.MaxInt64, "\xfe\xff\xff\xff\xff\xff\xff\xff\xff\x01"},
	{math.MinInt64, "\xff\xff\xff\xff\xff\xff\xff\xff\xff\x01"},
}

// notNumbers are bytes at whose beginning no number stands.
var notNumbers = []string{
	"",
	"\x80",
	"\xac",
	"\xff\xff",
	"\x80\x80\x80\x80\x80\x80\x80\x80\x80",
	"\x80\x00",
	"\xac\x00",
	"\xac\x82\x00",
	"\xff\xff\xff\xff\xff\xff\xff\xff\xff\x00",
	"\xff\xff\xff\xff\xff\xff\xff\xff\xff\x02",
	"\x80\x80\x80\x80\x80\x80\x80\x80\x80\x02",
	"\x80\x80\x80\x80\x80\x80\x80\x80\x80\x03",
	"\x80\x80\x80\x80\x80\x80\x80\x80\x80\x7f",
	"\x80\x80\x80\x80\x80\x80\x80\x80\x80\x80",
	"\x80\x80\x80\x80\x80\x80\x80\x80\x80\x80\x01",
	"\x80\x80\x80\x80\x80\x80\x80\x80\x80\x81\x00",
	"\xff\xff\xff\xff\xff\xff\xff\xff\xff\xff\xff\xff\x01",
}

// checkTail holds a reader against what is to be left, and wants nothing to be wrong.
func checkTail(t *testing.T, r *wire.Reader, left int) {
	t.Helper()
	if r.Err() != api.OK || r.Left() != left {
		t.Errorf("Err %d, Left %d, want 0, %d", r.Err(), r.Left(), left)
	}
	want := api.OK
	if left > 0 {
		want = api.ErrText
	}
	if r.Done() != want {
		t.Errorf("Done %d at %d left, want %d", r.Done(), left, want)
	}
}

// checkWrong wants a reader to stand still: all reads tell zero values, and neither the place nor what was wrong first turns.
func checkWrong(t *testing.T, r *wire.Reader, why api.Errno, left int) {
	t.Helper()
	for name, read := range reads() {
		if got := read(r); got != 0 {
			t.Errorf("%s tells %d behind what was wrong", name, got)
		}
		if r.Err() != why || r.Done() != why || r.Left() != left {
			t.Errorf("%s: Err %d, Done %d, Left %d, want %d, %d, %d", name, r.Err(), r.Done(), r.Left(), why, why, left)
		}
	}
}

// reads are all reads, told as numbers: of bytes how many there are.
func reads() map[string]func(r *wire.Reader) uint64 {
	return map[string]func(r *wire.Reader) uint64{
		"Uvarint":      func(r *wire.Reader) uint64 { return r.Uvarint() },
		"Varint":       func(r *wire.Reader) uint64 { return uint64(r.Varint()) },
		"Fixed4":       func(r *wire.Reader) uint64 { return uint64(r.Fixed4()) },
		"Fixed8":       func(r *wire.Reader) uint64 { return r.Fixed8() },
		"Byte":         func(r *wire.Reader) uint64 { return uint64(r.Byte()) },
		"Number":       func(r *wire.Reader) uint64 { return uint64(r.Number(math.MaxInt)) },
		"Number below": func(r *wire.Reader) uint64 { return uint64(r.Number(-1)) },
		"Bytes":        func(r *wire.Reader) uint64 { return uint64(len(r.Bytes(math.MaxInt))) },
		"Bytes below":  func(r *wire.Reader) uint64 { return uint64(len(r.Bytes(-1))) },
	}
}

// TestExamples are those of the chapter.
func TestExamples(t *testing.T) {
	if got := wire.Uvarint(nil, 300); string(got) != "\xac\x02" {
		t.Errorf("300: %x", got)
	}
	if got := wire.Varint(nil, -1); string(got) != "\x01" {
		t.Errorf("-1: %x", got)
	}
	r := wire.Read([]byte{0x80, 0})
	if got := r.Uvarint(); got != 0 || r.Err() != api.ErrText {
		t.Errorf("80 00: %d, %d", got, r.Err())
	}
	r = wire.Read([]byte{0xac, 2})
	if got := r.Number(299); got != 0 || r.Err() != api.ErrLong || r.Left() != 2 {
		t.Errorf("Number(299) of AC 02: %d, %d, %d left", got, r.Err(), r.Left())
	}
}

func TestWriteNumbers(t *testing.T) {
	for _, c := range numbers {
		if got := wire.Uvarint([]byte("ab"), c.n); string(got) != "ab"+c.want {
			t.Errorf("Uvarint(ab, %d) = %x", c.n, got)
		}
		if got := wire.Uvarint(nil, c.n); string(got) != c.want {
			t.Errorf("Uvarint(nil, %d) = %x", c.n, got)
		}
	}
	for _, c := range signeds {
		if got := wire.Varint([]byte{}, c.n); string(got) != c.want {
			t.Errorf("Varint(, %d) = %x", c.n, got)
		}
		if got := wire.Varint([]byte{0x80}, c.n); string(got) != "\x80"+c.want {
			t.Errorf("Varint(80, %d) = %x", c.n, got)
		}
	}
}

func TestWriteFixed(t *testing.T) {
	for n, want := range map[uint32]string{
		0: "\x00\x00\x00\x00", 1: "\x01\x00\x00\x00", 0x04030201: "\x01\x02\x03\x04",
		1 << 31: "\x00\x00\x00\x80", math.MaxUint32: "\xff\xff\xff\xff",
	} {
		if got := wire.Fixed4([]byte("a"), n); string(got) != "a"+want {
			t.Errorf("Fixed4(a, %x) = %x", n, got)
		}
		if got := wire.Fixed4(nil, n); string(got) != want {
			t.Errorf("Fixed4(nil, %x) = %x", n, got)
		}
	}
	for n, want := range map[uint64]string{
		0: "\x00\x00\x00\x00\x00\x00\x00\x00", 1: "\x01\x00\x00\x00\x00\x00\x00\x00",
		0x0807060504030201: "\x01\x02\x03\x04\x05\x06\x07\x08",
		1 << 63:            "\x00\x00\x00\x00\x00\x00\x00\x80", math.MaxUint64: "\xff\xff\xff\xff\xff\xff\xff\xff",
	} {
		if got := wire.Fixed8([]byte("a"), n); string(got) != "a"+want {
			t.Errorf("Fixed8(a, %x) = %x", n, got)
		}
		if got := wire.Fixed8(nil, n); string(got) != want {
			t.Errorf("Fixed8(nil, %x) = %x", n, got)
		}
	}
}

func TestWriteBytes(t *testing.T) {
	long := bytes.Repeat([]byte{7}, 300)
	for _, c := range []struct {
		b, s []byte
		want string
	}{
		{nil, nil, "\x00"},
		{nil, []byte{}, "\x00"},
		{[]byte("a"), nil, "a\x00"},
		{nil, []byte{0}, "\x01\x00"},
		{[]byte("a"), []byte("bc"), "a\x02bc"},
		{nil, long[:127], "\x7f" + string(long[:127])},
		{nil, long[:128], "\x80\x01" + string(long[:128])},
		{[]byte("a"), long, "a\xac\x02" + string(long)},
	} {
		if got := wire.Bytes(c.b, c.s); string(got) != c.want {
			t.Errorf("Bytes(%x, %x) = %x", c.b, c.s, got)
		}
	}
}

// writes are all functions that write, each of a piece that is not short.
func writes() map[string]func(b []byte) []byte {
	return map[string]func(b []byte) []byte{
		"Uvarint":       func(b []byte) []byte { return wire.Uvarint(b, 300) },
		"Uvarint of 0":  func(b []byte) []byte { return wire.Uvarint(b, 0) },
		"Varint":        func(b []byte) []byte { return wire.Varint(b, -300) },
		"Fixed4":        func(b []byte) []byte { return wire.Fixed4(b, 0x01020304) },
		"Fixed8":        func(b []byte) []byte { return wire.Fixed8(b, 0x0102030405060708) },
		"Bytes":         func(b []byte) []byte { return wire.Bytes(b, []byte("xyz")) },
		"Bytes of none": func(b []byte) []byte { return wire.Bytes(b, nil) },
	}
}

// TestRoomOfItsOwn wants b, and the room behind its end, to stay as they are, and the answer to share neither.
func TestRoomOfItsOwn(t *testing.T) {
	for name, write := range writes() {
		for length := range 5 {
			whole := bytes.Repeat([]byte{0xee}, 64)
			b := whole[:length]
			got := write(b)
			if !bytes.Equal(whole, bytes.Repeat([]byte{0xee}, 64)) {
				t.Errorf("%s: b of %d bytes, or what is behind it, was turned: %x", name, length, whole)
			}
			if !bytes.HasPrefix(got, b) {
				t.Errorf("%s: the answer does not begin with b: %x", name, got)
			}
			told := slices.Clone(got)
			for i := range whole {
				whole[i] = 0x11
			}
			if !bytes.Equal(got, told) {
				t.Errorf("%s: the answer shares b's memory: %x", name, got)
			}
			fill(got[:cap(got)], 0x22)
			if !bytes.Equal(whole, bytes.Repeat([]byte{0x11}, 64)) {
				t.Errorf("%s: b shares the answer's memory", name)
			}
		}
	}
}

// TestTwoBehindOne lets two pieces follow the same bytes: neither turns the other.
func TestTwoBehindOne(t *testing.T) {
	b := wire.Fixed8(nil, 1)
	for name, write := range writes() {
		first := write(b)
		told := slices.Clone(first)
		wire.Fixed8(b, math.MaxUint64)
		wire.Bytes(b, []byte("another"))
		if !bytes.Equal(first, told) {
			t.Errorf("%s: what followed was turned by another one: %x", name, first)
		}
	}
}

// TestWriteBytesOfItself hands in a list as both, and one that lies in the room behind the other.
func TestWriteBytesOfItself(t *testing.T) {
	whole := []byte("abcdefgh")
	if got := wire.Bytes(whole[:2], whole[2:5]); string(got) != "ab\x03cde" {
		t.Errorf("behind its own beginning: %q", got)
	}
	if got := wire.Bytes(whole, whole); string(got) != "abcdefgh\x08abcdefgh" {
		t.Errorf("behind itself: %q", got)
	}
	if string(whole) != "abcdefgh" {
		t.Errorf("turned: %q", whole)
	}
	s := []byte("xyz")
	got := wire.Bytes(nil, s)
	s[0] = '-'
	if string(got) != "\x03xyz" {
		t.Errorf("the answer shares the memory of s: %q", got)
	}
	fill(got[:cap(got)], 0)
	if string(s) != "-yz" {
		t.Errorf("s was turned by way of the answer: %q", s)
	}
}

func fill(b []byte, with byte) {
	for i := range b {
		b[i] = with
	}
}

func TestReadNumbers(t *testing.T) {
	for _, c := range numbers {
		r := wire.Read([]byte(c.want + "tail"))
		if got := r.Uvarint(); got != c.n {
			t.Errorf("Uvarint of %x = %d, want %d", c.want, got, c.n)
		}
		checkTail(t, r, 4)
		r = wire.Read([]byte(c.want))
		if got := r.Uvarint(); got != c.n {
			t.Errorf("Uvarint of %x = %d, want %d", c.want, got, c.n)
		}
		checkTail(t, r, 0)
	}
	for _, c := range signeds {
		r := wire.Read([]byte(c.want + "t"))
		if got := r.Varint(); got != c.n {
			t.Errorf("Varint of %x = %d, want %d", c.want, got, c.n)
		}
		checkTail(t, r, 1)
	}
}

// TestReadNotNumbers wants ErrText of all reads that begin with a number, whatever most is.
func TestReadNotNumbers(t *testing.T) {
	read := map[string]func(r *wire.Reader) uint64{}
	for name, f := range reads() {
		if name != "Byte" && name != "Fixed4" && name != "Fixed8" {
			read[name] = f
		}
	}
	for _, b := range notNumbers {
		for name, f := range read {
			r := wire.Read([]byte("\x05" + b))
			if r.Byte() != 5 {
				t.Fatal("no byte")
			}
			if got := f(r); got != 0 {
				t.Errorf("%s of %x = %d", name, b, got)
			}
			checkWrong(t, r, api.ErrText, len(b))
		}
	}
}

// TestReadCutNumbers cuts numbers short at each place.
func TestReadCutNumbers(t *testing.T) {
	for _, c := range numbers {
		for length := range len(c.want) {
			r := wire.Read([]byte(c.want[:length]))
			if got := r.Uvarint(); got != 0 {
				t.Errorf("Uvarint of %x = %d", c.want[:length], got)
			}
			checkWrong(t, r, api.ErrText, length)
			// What lies in the room behind the end is not read.
			r = wire.Read([]byte(c.want)[:length])
			if got := r.Varint(); got != 0 {
				t.Errorf("Varint of %x = %d", c.want[:length], got)
			}
			checkWrong(t, r, api.ErrText, length)
		}
	}
}

func TestReadFixed(t *testing.T) {
	b := []byte{1, 2, 3, 0x84, 5, 6, 7, 0x88, 0xff}
	r := wire.Read(b)
	if got := r.Fixed4(); got != 0x84030201 {
		t.Errorf("Fixed4 = %x", got)
	}
	checkTail(t, r, 5)
	r = wire.Read(b)
	if got := r.Fixed8(); got != 0x8807060584030201 {
		t.Errorf("Fixed8 = %x", got)
	}
	checkTail(t, r, 1)
	if got := r.Byte(); got != 0xff {
		t.Errorf("Byte = %x", got)
	}
	checkTail(t, r, 0)
	if got := r.Byte(); got != 0 {
		t.Errorf("Byte behind the end = %x", got)
	}
	checkWrong(t, r, api.ErrText, 0)
}

// TestReadCutFixed has too few bytes, at each place.
func TestReadCutFixed(t *testing.T) {
	for name, size := range map[string]int{"Byte": 1, "Fixed4": 4, "Fixed8": 8} {
		for length := range size {
			r := wire.Read(bytes.Repeat([]byte{9}, 2+length))
			r.Byte()
			r.Byte()
			if got := reads()[name](r); got != 0 {
				t.Errorf("%s of %d bytes = %d", name, length, got)
			}
			checkWrong(t, r, api.ErrText, length)
		}
	}
}

func TestReadNumber(t *testing.T) {
	for _, c := range []struct {
		b    string
		most int
		want int
		why  api.Errno
	}{
		{"\x00", 0, 0, api.OK},
		{"\x00", 1, 0, api.OK},
		{"\x00", -1, 0, api.ErrLong},
		{"\x00", math.MinInt, 0, api.ErrLong},
		{"\x01", -1, 0, api.ErrLong},
		{"\x01", 0, 0, api.ErrLong},
		{"\x01", 1, 1, api.OK},
		{"\x7f", 126, 0, api.ErrLong},
		{"\x7f", 127, 127, api.OK},
		{"\x80\x01", 127, 0, api.ErrLong},
		{"\x80\x01", 128, 128, api.OK},
		{"\xac\x02", 299, 0, api.ErrLong},
		{"\xac\x02", 300, 300, api.OK},
		{"\xac\x02", 301, 300, api.OK},
		{"\xac\x02", math.MaxInt, 300, api.OK},
		{"\xac\x02", -300, 0, api.ErrLong},
		{"\xff\xff\xff\xff\xff\xff\xff\xff\x7f", math.MaxInt, math.MaxInt, api.OK},
		{"\xff\xff\xff\xff\xff\xff\xff\xff\x7f", math.MaxInt - 1, 0, api.ErrLong},
		{"\x80\x80\x80\x80\x80\x80\x80\x80\x80\x01", math.MaxInt, 0, api.ErrLong},
		{"\xff\xff\xff\xff\xff\xff\xff\xff\xff\x01", math.MaxInt, 0, api.ErrLong},
		{"\xff\xff\xff\xff\xff\xff\xff\xff\xff\x01", -1, 0, api.ErrLong},
		{"\xff\xff\xff\xff\xff\xff\xff\xff\xff\x01", 0, 0, api.ErrLong},
		{"\xff\xff\xff\xff\xff\xff\xff\xff\xff\x02", 0, 0, api.ErrText},
		{"", 0, 0, api.ErrText},
		{"", -1, 0, api.ErrText},
		{"\x80\x00", -1, 0, api.ErrText},
	} {
		r := wire.Read([]byte(c.b))
		if got := r.Number(c.most); got != c.want || r.Err() != c.why {
			t.Errorf("Number(%d) of %x = %d, %d, want %d, %d", c.most, c.b, got, r.Err(), c.want, c.why)
		}
		if c.why == api.OK {
			checkTail(t, r, 0)
		} else {
			checkWrong(t, r, c.why, len(c.b))
		}
	}
}

func TestReadBytes(t *testing.T) {
	for _, c := range []struct {
		b    string
		most int
		want string
		why  api.Errno
		left int
	}{
		{"\x00", 0, "", api.OK, 0},
		{"\x00z", 9, "", api.OK, 1},
		{"\x00", -1, "", api.ErrLong, 1},
		{"\x02abz", 2, "ab", api.OK, 1},
		{"\x02abz", math.MaxInt, "ab", api.OK, 1},
		{"\x02abz", 1, "", api.ErrLong, 4},
		{"\x02abz", 0, "", api.ErrLong, 4},
		{"\x02abz", -1, "", api.ErrLong, 4},
		{"\x03ab", 3, "", api.ErrText, 3},
		{"\x03", 3, "", api.ErrText, 1},
		{"\x01", 1, "", api.ErrText, 1},
		{"\x03ab", 2, "", api.ErrLong, 3},
		{"\xff\x01ab", 300, "", api.ErrText, 4},
		{"\xff\xff\xff\xff\xff\xff\xff\xff\x7fab", math.MaxInt, "", api.ErrText, 11},
		{"\xff\xff\xff\xff\xff\xff\xff\xff\x7fab", math.MaxInt - 1, "", api.ErrLong, 11},
		{"\xff\xff\xff\xff\xff\xff\xff\xff\xff\x01ab", math.MaxInt, "", api.ErrLong, 12},
		{"\xff\xff\xff\xff\xff\xff\xff\xff\xff\x02ab", math.MaxInt, "", api.ErrText, 12},
		{"\x82\x00ab", 9, "", api.ErrText, 4},
		{"", 0, "", api.ErrText, 0},
		{"", -1, "", api.ErrText, 0},
	} {
		r := wire.Read([]byte("\x07" + c.b))
		r.Byte()
		got := r.Bytes(c.most)
		if string(got) != c.want || r.Err() != c.why || r.Left() != c.left {
			t.Errorf("Bytes(%d) of %x = %x, %d, %d left; want %x, %d, %d", c.most, c.b, got, r.Err(), r.Left(), c.want, c.why, c.left)
		}
		if c.why == api.OK {
			checkTail(t, r, c.left)
		} else {
			checkWrong(t, r, c.why, c.left)
		}
	}
}

// TestReadKeepsItsOwn turns what was handed in, and what was answered: the reader goes on with what it was given.
func TestReadKeepsItsOwn(t *testing.T) {
	whole := []byte("\x02ab\x02cd\x02ef---")
	b := whole[:9]
	r := wire.Read(b)
	fill(whole, 0xff)
	first := r.Bytes(2)
	told := string(first)
	fill(first[:cap(first)], 0xff)
	second := r.Bytes(2)
	third := r.Bytes(2)
	if told != "ab" || string(second) != "cd" || string(third) != "ef" {
		t.Errorf("%q, %q, %q", told, second, third)
	}
	fill(second[:cap(second)], 0xee)
	if string(third) != "ef" {
		t.Errorf("two answers share memory: %q", third)
	}
	checkTail(t, r, 0)
	if string(whole) != "\xff\xff\xff\xff\xff\xff\xff\xff\xff\xff\xff\xff" {
		t.Errorf("what was handed in was turned: %x", whole)
	}
}

// TestReadersApart has two readers of the same bytes: neither moves the other.
func TestReadersApart(t *testing.T) {
	b := []byte{1, 2}
	first, second := wire.Read(b), wire.Read(b)
	first.Byte()
	if got := second.Byte(); got != 1 {
		t.Errorf("the second one tells %d", got)
	}
	first.Fixed4()
	checkWrong(t, first, api.ErrText, 1)
	if got := second.Byte(); got != 2 {
		t.Errorf("the second one tells %d", got)
	}
	checkTail(t, second, 0)
}

// TestFirstWrongStays has something else be wrong later.
func TestFirstWrongStays(t *testing.T) {
	r := wire.Read([]byte{9, 0x80, 0})
	r.Number(8)
	checkWrong(t, r, api.ErrLong, 3)
	r = wire.Read([]byte{0x80, 0, 9})
	r.Number(0)
	checkWrong(t, r, api.ErrText, 3)
}

// TestAskingTurnsNothing wants Err, Left and Done to leave the reader as it is.
func TestAskingTurnsNothing(t *testing.T) {
	r := wire.Read([]byte{1, 2})
	for range 3 {
		if r.Err() != api.OK || r.Left() != 2 || r.Done() != api.ErrText {
			t.Errorf("Err %d, Left %d, Done %d", r.Err(), r.Left(), r.Done())
		}
	}
	if r.Byte() != 1 || r.Byte() != 2 {
		t.Error("Done stopped the reading")
	}
	checkTail(t, r, 0)
}

func TestNoBytes(t *testing.T) {
	for _, b := range [][]byte{nil, {}, make([]byte, 8)[:0]} {
		checkTail(t, wire.Read(b), 0)
		for name, read := range reads() {
			r := wire.Read(b)
			if got := read(r); got != 0 {
				t.Errorf("%s of nothing = %d", name, got)
			}
			checkWrong(t, r, api.ErrText, 0)
		}
	}
}

func TestNilReader(t *testing.T) {
	var r *wire.Reader
	checkWrong(t, r, api.ErrText, 0)
	if r.Bytes(0) != nil {
		t.Error("bytes of a nil reader")
	}
}

// TestZeroReader has a reader that no call made: it is to end, and is as one of no bytes.
func TestZeroReader(t *testing.T) {
	checkTail(t, &wire.Reader{}, 0)
	for name, read := range reads() {
		r := &wire.Reader{}
		if got := read(r); got != 0 {
			t.Errorf("%s of the zero reader = %d", name, got)
		}
		checkWrong(t, r, api.ErrText, 0)
	}
}

// digits is a number without sign by the document's words, reckoned with long numbers.
func digits(n *big.Int) []byte {
	base := big.NewInt(128)
	rest := new(big.Int).Set(n)
	var b []byte
	for {
		digit := new(big.Int)
		rest.DivMod(rest, base, digit)
		if rest.Sign() == 0 {
			return append(b, byte(digit.Int64()))
		}
		b = append(b, byte(digit.Int64()+128))
	}
}

// folded is the number without sign of one with sign, by the document's words.
func folded(n int64) *big.Int {
	double := new(big.Int).Mul(big.NewInt(n), big.NewInt(2))
	if n >= 0 {
		return double
	}
	return double.Sub(double.Neg(double), big.NewInt(1))
}

// steps are numbers around each power of two, and some of no pattern.
func steps() []uint64 {
	l := []uint64{0}
	random := rand.New(rand.NewSource(2))
	for shift := range 64 {
		power := uint64(1) << shift
		l = append(l, power-1, power, power+1, -power, random.Uint64()>>shift)
	}
	return l
}

func TestNumbersByDigits(t *testing.T) {
	for _, n := range steps() {
		want := digits(new(big.Int).SetUint64(n))
		if got := wire.Uvarint(nil, n); !bytes.Equal(got, want) {
			t.Errorf("Uvarint(%d) = %x, want %x", n, got, want)
		}
		if got := wire.Read(want).Uvarint(); got != n {
			t.Errorf("Uvarint of %x = %d, want %d", want, got, n)
		}
		want = digits(folded(int64(n)))
		if got := wire.Varint(nil, int64(n)); !bytes.Equal(got, want) {
			t.Errorf("Varint(%d) = %x, want %x", int64(n), got, want)
		}
		if got := wire.Read(want).Varint(); got != int64(n) {
			t.Errorf("Varint of %x = %d, want %d", want, got, int64(n))
		}
	}
}

// TestAllShortBytes reads every string of up to two bytes, and wants just those to be numbers that Uvarint writes.
func TestAllShortBytes(t *testing.T) {
	forms := map[string]uint64{}
	for n := range uint64(1 << 14) {
		forms[string(wire.Uvarint(nil, n))] = n
	}
	for low := range 256 {
		checkOneForm(t, []byte{byte(low)}, forms)
		for high := range 256 {
			checkOneForm(t, []byte{byte(low), byte(high)}, forms)
		}
	}
}

func checkOneForm(t *testing.T, b []byte, forms map[string]uint64) {
	t.Helper()
	r := wire.Read(b)
	got := r.Uvarint()
	taken := len(b) - r.Left()
	want, is := forms[string(b[:taken])]
	if r.Err() == api.OK {
		if !is || got != want {
			t.Fatalf("Uvarint of %x = %d by %d bytes, want %d, %v", b, got, taken, want, is)
		}
		return
	}
	if got != 0 || taken != 0 {
		t.Fatalf("Uvarint of %x = %d by %d bytes beside an error", b, got, taken)
	}
	for length := 1; length <= len(b); length++ {
		if _, is := forms[string(b[:length])]; is {
			t.Fatalf("Uvarint of %x is refused", b)
		}
	}
}

// piece is one thing that is written, and how it is read back.
type piece struct {
	kind int
	n    uint64
	s    []byte
}

const kinds = 7

func randomPiece(random *rand.Rand) piece {
	p := piece{kind: random.Intn(kinds), n: random.Uint64() >> random.Intn(64)}
	if p.kind == 6 {
		p.s = make([]byte, random.Intn(200))
		random.Read(p.s)
	}
	return p
}

func (p piece) write(b []byte) []byte {
	switch p.kind {
	case 0:
		return wire.Uvarint(b, p.n)
	case 1:
		return wire.Varint(b, int64(p.n))
	case 2:
		return wire.Fixed4(b, uint32(p.n))
	case 3:
		return wire.Fixed8(b, p.n)
	case 4:
		return append(slices.Clip(b), byte(p.n))
	case 5:
		return wire.Uvarint(b, p.n>>1)
	}
	return wire.Bytes(b, p.s)
}

func (p piece) isRead(r *wire.Reader) bool {
	switch p.kind {
	case 0:
		return r.Uvarint() == p.n
	case 1:
		return r.Varint() == int64(p.n)
	case 2:
		return r.Fixed4() == uint32(p.n)
	case 3:
		return r.Fixed8() == p.n
	case 4:
		return r.Byte() == byte(p.n)
	case 5:
		return r.Number(int(p.n>>1)) == int(p.n>>1)
	}
	return bytes.Equal(r.Bytes(len(p.s)), p.s)
}

// TestReadBack is Wi3's first half: what was written one behind the other.
func TestReadBack(t *testing.T) {
	random := rand.New(rand.NewSource(3))
	for range 500 {
		var b []byte
		var pieces []piece
		var ends []int
		for range random.Intn(12) {
			p := randomPiece(random)
			pieces = append(pieces, p)
			b = p.write(b)
			ends = append(ends, len(b))
		}
		r := wire.Read(b)
		for i, p := range pieces {
			if !p.isRead(r) || r.Left() != len(b)-ends[i] {
				t.Fatalf("piece %d of %v is not read back from %x", i, pieces, b)
			}
		}
		checkTail(t, r, 0)
	}
}

// again reads one thing of a kind, and writes it.
func again(kind int, r *wire.Reader) []byte {
	switch kind {
	case 0:
		return wire.Uvarint(nil, r.Uvarint())
	case 1:
		return wire.Varint(nil, r.Varint())
	case 2:
		return wire.Fixed4(nil, r.Fixed4())
	case 3:
		return wire.Fixed8(nil, r.Fixed8())
	case 4:
		return []byte{r.Byte()}
	case 5:
		return wire.Uvarint(nil, uint64(r.Number(math.MaxInt)))
	}
	return wire.Bytes(nil, r.Bytes(math.MaxInt))
}

// TestWrittenAgain is Wi3's second half, at bytes of no pattern: what is read, written again, is the bytes that were read.
func TestWrittenAgain(t *testing.T) {
	random := rand.New(rand.NewSource(4))
	read := [kinds]int{}
	for range 20000 {
		b := make([]byte, random.Intn(24))
		random.Read(b)
		// Else bytes that another one follows would be too many, and few numbers be long.
		for i := range b {
			switch random.Intn(4) {
			case 0:
				b[i] &= 0x0f
			case 1:
				b[i] |= 0x80
			}
		}
		kind := random.Intn(kinds)
		r := wire.Read(b)
		got := again(kind, r)
		if r.Err() != api.OK {
			checkWrong(t, r, r.Err(), len(b))
			continue
		}
		read[kind]++
		if want := b[:len(b)-r.Left()]; !bytes.Equal(got, want) {
			t.Fatalf("kind %d of %x: read %x, written %x", kind, b, want, got)
		}
	}
	for kind, n := range read {
		if n < 100 {
			t.Errorf("kind %d was read %d times only", kind, n)
		}
	}
}
