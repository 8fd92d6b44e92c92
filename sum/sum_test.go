package sum

import (
	"bytes"
	"cardgame/api"
	"hash/crc32"
	"slices"
	"strings"
	"testing"
)

// nine is the string of the chapter's example, and sealed the same with its checksum.
const (
	nine   = "123456789"
	sealed = nine + "\x26\x39\xf4\xcb"
)

// random returns numbers that look random and are the same in every run.
func random() func() uint32 {
	n := uint64(1)
	return func() uint32 {
		n = n*6364136223846793005 + 1442695040888963407
		return uint32(n >> 32)
	}
}

// inputs are strings of every length up to 64 bytes, and some longer ones.
func inputs() [][]byte {
	l := [][]byte{nil, {}, []byte(nine), []byte(sealed), make([]byte, 1000), bytes.Repeat([]byte{0xff}, 1000)}
	next := random()
	for length := range 65 {
		l = append(l, make([]byte, length), bytes.Repeat([]byte{0xff}, length))
		b := make([]byte, length*length)
		for i := range b {
			b[i] = byte(next())
		}
		l = append(l, b, slices.Clone(b[:length]))
	}
	return l
}

// bits returns the bits of b, least significant bit of each byte first.
func bits(b []byte) []bool {
	var l []bool
	for _, c := range b {
		for range 8 {
			l = append(l, c%2 == 1)
			c /= 2
		}
	}
	return l
}

// remainder returns the checksum by another way than the chapter's: as the remainder of a division of polynomials.
// The first bit of the input, like the first bit of the checksum, belongs to the greatest power.
func remainder(b []byte) uint32 {
	l := append(bits(b), make([]bool, 32)...)
	for i := range 32 { // a register of ones inverts the first 32 bits of the dividend
		l[i] = !l[i]
	}
	divisor := append([]bool{true}, bits([]byte{0x20, 0x83, 0xb8, 0xed})...)
	for i := range len(l) - 32 {
		if l[i] {
			for j, d := range divisor {
				l[i+j] = l[i+j] != d
			}
		}
	}
	var n uint32
	for i, v := range l[len(l)-32:] {
		if !v {
			n |= 1 << i
		}
	}
	return n
}

func TestOf(t *testing.T) { // P5.1
	for _, c := range []struct {
		s    string
		want uint32
	}{
		{"", 0}, {nine, 0xcbf43926}, {"a", 0xe8b7be43}, {"abc", 0x352441c2},
		{"The quick brown fox jumps over the lazy dog", 0x414fa339},
		{"\x00", 0xd202ef8d}, {"\xff", 0xff000000}, {"\xff\xff\xff\xff", 0xffffffff},
		{strings.Repeat("\x00", 32), 0x190a55ad}, {strings.Repeat("\xff", 32), 0xff6cab0b},
	} {
		if got := Of([]byte(c.s)); got != c.want {
			t.Errorf("Of(%q) = %08x", c.s, got)
		}
	}
	for _, b := range inputs() {
		if got := Of(b); got != remainder(b) || got != crc32.ChecksumIEEE(b) {
			t.Errorf("Of(%x) = %08x", b, got)
		}
	}
}

func TestOfEachByte(t *testing.T) { // P5.1
	for n := range 1 << 16 {
		b := []byte{byte(n), byte(n >> 8)}
		if got := Of(b); got != crc32.ChecksumIEEE(b) {
			t.Fatalf("Of(%x) = %08x", b, got)
		}
	}
	for n := range 1 << 8 {
		if b := []byte{byte(n)}; Of(b) != remainder(b) {
			t.Fatalf("Of(%x) = %08x", b, Of(b))
		}
	}
}

func TestSeal(t *testing.T) { // P5.1
	for _, c := range []struct{ s, want string }{
		{"", "\x00\x00\x00\x00"}, {nine, sealed}, {"\x00", "\x00\x8d\xef\x02\xd2"}, {"abc", "abc\xc2\x41\x24\x35"},
	} {
		if got := Seal([]byte(c.s)); string(got) != c.want {
			t.Errorf("Seal(%q) = %x", c.s, got)
		}
	}
	for _, b := range inputs() {
		n := crc32.ChecksumIEEE(b)
		want := append(slices.Clone(b), byte(n), byte(n>>8), byte(n>>16), byte(n>>24))
		if got := Seal(b); !bytes.Equal(got, want) {
			t.Errorf("Seal(%x) = %x", b, got)
		}
	}
}

func TestOpen(t *testing.T) { // P5.2
	for _, c := range []struct {
		s, want string
		err     api.Errno
	}{
		{sealed, nine, api.OK}, {"\x00\x00\x00\x00", "", api.OK}, {"\x00\x8d\xef\x02\xd2", "\x00", api.OK}, {"\xff\x00\x00\x00\xff", "\xff", api.OK},
		{"", "", api.ErrShort}, {"\x00", "", api.ErrShort}, {"\x00\x00", "", api.ErrShort}, {"\x00\x00\x00", "", api.ErrShort}, {"\xff\xff\xff", "", api.ErrShort},
		{"\x00\x00\x00\x01", "", api.ErrSum}, {"\x01\x00\x00\x00", "", api.ErrSum}, {"\xff\xff\xff\xff", "", api.ErrSum}, {"1234", "", api.ErrSum},
		{nine + "\xcb\xf4\x39\x26", "", api.ErrSum}, {"\x26\x39\xf4\xcb" + nine, "", api.ErrSum}, {nine + "\xd9\xc6\x0b\x34", "", api.ErrSum},
		{sealed[:len(sealed)-1], "", api.ErrSum}, {sealed[1:], "", api.ErrSum}, {sealed + "\x00", "", api.ErrSum}, {"\x00" + sealed, "", api.ErrSum},
		{nine + "\x00\x00\x00\x00", "", api.ErrSum}, {nine, "", api.ErrSum},
	} {
		if got, err := Open([]byte(c.s)); string(got) != c.want || err != c.err {
			t.Errorf("Open(%q) = %x, %d", c.s, got, int(err))
		}
	}
	if got, err := Open(nil); len(got) != 0 || err != api.ErrShort {
		t.Error("Open of nil", got, int(err))
	}
}

func TestOpenOtherSums(t *testing.T) { // P5.2: every byte of the checksum is compared as a whole
	for i := range size {
		for change := 1; change < 256; change++ {
			b := []byte(sealed)
			b[len(nine)+i] ^= byte(change)
			if got, err := Open(b); len(got) != 0 || err != api.ErrSum {
				t.Fatalf("Open(%x) = %x, %d", b, got, int(err))
			}
		}
	}
}

func TestMemory(t *testing.T) { // P5.1, P5.2, and rule 4 of DOC.md
	whole := []byte(sealed + strings.Repeat("?", 64))
	got := Seal(whole[:len(nine)])
	opened, _ := Open(whole[:len(sealed)])
	if string(whole) != sealed+strings.Repeat("?", 64) || string(got) != sealed || string(opened) != nine {
		t.Errorf("an argument was changed: %q", whole)
	}
	spare := []byte(nine + strings.Repeat("?", 64))
	Seal(spare[:len(nine)])
	if string(spare) != nine+strings.Repeat("?", 64) {
		t.Errorf("Seal writes to the spare capacity: %q", spare)
	}
	again := Seal(whole[:len(nine)])
	openedAgain, _ := Open(whole[:len(sealed)])
	clear(got[:cap(got)])
	clear(opened[:cap(opened)])
	if string(whole) != sealed+strings.Repeat("?", 64) || string(again) != sealed || string(openedAgain) != nine {
		t.Error("a result shares memory")
	}
}

func TestInverse(t *testing.T) { // P5.3
	for _, b := range inputs() {
		if got, err := Open(Seal(b)); !bytes.Equal(got, b) || err != api.OK {
			t.Errorf("Open(Seal(%x)) = %x, %d", b, got, int(err))
		}
		if twice, err := Open(Seal(Seal(b))); !bytes.Equal(twice, Seal(b)) || err != api.OK {
			t.Errorf("Open(Seal(Seal(%x))) = %x, %d", b, twice, int(err))
		}
	}
}

// changed returns b with the bits inverted that are set in pattern, of which bit 0 stands for the bit numbered at.
func changed(b []byte, at int, pattern uint64) []byte {
	b = slices.Clone(b)
	for i := at; pattern != 0; i, pattern = i+1, pattern/2 {
		if pattern%2 == 1 {
			b[i/8] ^= 1 << (i % 8)
		}
	}
	return b
}

// changes returns patterns of length bits, the first and the last of them set: all of them if they are few.
func changes(length int) []uint64 {
	ends := uint64(1)<<(length-1) | 1
	if length <= 8 {
		var l []uint64
		for inner := range uint64(1) << max(length-2, 0) {
			l = append(l, ends|inner<<1)
		}
		return l
	}
	all := uint64(1)<<length - 1
	l := []uint64{ends, all, ends | all&0x5555555555555555, ends | all&0xaaaaaaaaaaaaaaaa}
	next := random()
	for range 60 {
		l = append(l, ends|all&(uint64(next())<<1))
	}
	return l
}

func TestChangedBits(t *testing.T) { // P5.3
	for _, s := range []string{"", "\x00", nine, strings.Repeat("\x00", 9), strings.Repeat("\xff", 9), sealed} {
		b := Seal([]byte(s))
		for length := 1; length <= 32; length++ {
			for _, pattern := range changes(length) {
				for at := range 8*len(b) - length + 1 {
					if got, err := Open(changed(b, at, pattern)); len(got) != 0 || err != api.ErrSum {
						t.Fatalf("%x with pattern %x at %d: %x, %d", b, pattern, at, got, int(err))
					}
				}
			}
		}
	}
}

// TestUndetected shows that 32 bits are the limit: one pattern of 33 bits turns a sealed string into another one.
// It also shows that the bits in these tests are numbered as the chapter says.
func TestUndetected(t *testing.T) { // P5.2, P5.3
	b := []byte(sealed)
	for at := range 8*len(b) - 32 {
		other := changed(b, at, 0xedb88320<<1|1)
		if got, err := Open(other); !bytes.Equal(got, other[:len(nine)]) || err != api.OK {
			t.Errorf("%x: %x, %d", other, got, int(err))
		}
	}
}

func TestExamples(t *testing.T) { // the examples of chapter 05
	if Of([]byte(nine)) != 0xCBF43926 || Of(nil) != 0 {
		t.Errorf("%X %X", Of([]byte(nine)), Of(nil))
	}
	if got := Seal([]byte(nine)); !bytes.Equal(got[len(nine):], []byte{0x26, 0x39, 0xf4, 0xcb}) {
		t.Errorf("% X", got)
	}
}
