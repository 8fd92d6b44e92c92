package octet

import (
	"bytes"
	"cardgame/api"
	"math"
	"slices"
	"strings"
	"testing"
)

// numbers are unsigned numbers around every border between lengths of encodings.
func numbers() []uint64 {
	l := []uint64{0, 1, 2, 3, 100, 300, math.MaxUint64, math.MaxUint64 - 1}
	for bits := 1; bits < 64; bits++ {
		n := uint64(1) << bits
		l = append(l, n-1, n, n+1)
	}
	return l
}

// ints are ints around every border between lengths of encodings.
func ints() []int {
	l := []int{math.MinInt, math.MinInt + 1, math.MaxInt, math.MaxInt - 1}
	for bits := range 62 {
		for _, n := range []int{1<<bits - 1, 1 << bits, 1<<bits + 1} {
			l = append(l, n, -n)
		}
	}
	return l
}

// encoding returns the encoding of n as the chapter defines it, by division.
func encoding(n uint64) []byte {
	if n < 128 {
		return []byte{byte(n)}
	}
	return append([]byte{byte(n%128) + 128}, encoding(n/128)...)
}

// intEncoding returns the encoding of the int n as the chapter defines it.
func intEncoding(n int) []byte {
	if n == math.MinInt { // where -2n - 1 does not fit an int
		return encoding(math.MaxUint64)
	}
	if n < 0 {
		return encoding(2*uint64(-n) - 1)
	}
	return encoding(2 * uint64(n))
}

// spare returns a slice of the bytes of s with spare capacity, and the whole of its memory.
func spare(s string) ([]byte, []byte) {
	whole := append([]byte(s), strings.Repeat("?", 64)...)
	return whole[:len(s)], whole
}

// puts are calls of each of the functions of P4.1, with what they append.
var puts = []struct {
	name string
	put  func(b []byte) []byte
	want string
}{
	{"Put()", func(b []byte) []byte { return Put(b) }, ""},
	{"Put(0)", func(b []byte) []byte { return Put(b, 0) }, "\x00"},
	{"Put(127)", func(b []byte) []byte { return Put(b, 127) }, "\x7f"},
	{"Put(128)", func(b []byte) []byte { return Put(b, 128) }, "\x80\x01"},
	{"Put(300)", func(b []byte) []byte { return Put(b, 300) }, "\xac\x02"},
	{"Put(1, 300, 0)", func(b []byte) []byte { return Put(b, 1, 300, 0) }, "\x01\xac\x02\x00"},
	{"Put(max)", func(b []byte) []byte { return Put(b, math.MaxUint64) }, "\xff\xff\xff\xff\xff\xff\xff\xff\xff\x01"},
	{"PutInt(0)", func(b []byte) []byte { return PutInt(b, 0) }, "\x00"},
	{"PutInt(-1)", func(b []byte) []byte { return PutInt(b, -1) }, "\x01"},
	{"PutInt(1)", func(b []byte) []byte { return PutInt(b, 1) }, "\x02"},
	{"PutInt(-64)", func(b []byte) []byte { return PutInt(b, -64) }, "\x7f"},
	{"PutInt(64)", func(b []byte) []byte { return PutInt(b, 64) }, "\x80\x01"},
	{"PutInt(min)", func(b []byte) []byte { return PutInt(b, math.MinInt) }, "\xff\xff\xff\xff\xff\xff\xff\xff\xff\x01"},
	{"PutInt(max)", func(b []byte) []byte { return PutInt(b, math.MaxInt) }, "\xfe\xff\xff\xff\xff\xff\xff\xff\xff\x01"},
	{"PutBool(false)", func(b []byte) []byte { return PutBool(b, false) }, "\x00"},
	{"PutBool(true)", func(b []byte) []byte { return PutBool(b, true) }, "\x01"},
	{"PutText()", func(b []byte) []byte { return PutText(b, "") }, "\x00"},
	{"PutText(ab)", func(b []byte) []byte { return PutText(b, "ab") }, "\x02ab"},
	{"PutText(no UTF-8)", func(b []byte) []byte { return PutText(b, "\x00\xff\x80") }, "\x03\x00\xff\x80"},
	{"PutText(long)", func(b []byte) []byte { return PutText(b, strings.Repeat("x", 130)) }, "\x82\x01" + strings.Repeat("x", 130)},
	{"PutInts(nil)", func(b []byte) []byte { return PutInts(b, nil) }, "\x00"},
	{"PutInts()", func(b []byte) []byte { return PutInts(b, []int{}) }, "\x00"},
	{"PutInts(1, -64, 64)", func(b []byte) []byte { return PutInts(b, []int{1, -64, 64}) }, "\x03\x02\x7f\x80\x01"},
	{"PutInts(long)", func(b []byte) []byte { return PutInts(b, make([]int, 130)) }, "\x82\x01" + strings.Repeat("\x00", 130)},
}

func TestPut(t *testing.T) { // P4.1
	for _, c := range puts {
		for _, before := range []string{"", "\x80", "abc"} {
			if got := c.put([]byte(before)); string(got) != before+c.want {
				t.Errorf("%s after %q: %x", c.name, before, got)
			}
		}
		if got := c.put(nil); string(got) != c.want {
			t.Errorf("%s after nil: %x", c.name, got)
		}
	}
}

func TestPutNumbers(t *testing.T) { // P4.1
	var all []byte
	for _, n := range numbers() {
		if got := Put(nil, n); !bytes.Equal(got, encoding(n)) {
			t.Errorf("Put(%d) = %x", n, got)
		}
		all = append(all, encoding(n)...)
	}
	if !bytes.Equal(Put(nil, numbers()...), all) {
		t.Error("Put of all numbers differs")
	}
	for _, n := range ints() {
		if got := PutInt(nil, n); !bytes.Equal(got, intEncoding(n)) {
			t.Errorf("PutInt(%d) = %x", n, got)
		}
	}
}

func TestPutMemory(t *testing.T) { // P4.1, and rule 4 of DOC.md
	for _, c := range puts {
		b, whole := spare("abc")
		got := c.put(b)
		if string(whole) != "abc"+strings.Repeat("?", 64) {
			t.Errorf("%s writes to the memory of b: %q", c.name, whole)
		}
		again := c.put(b)
		for i := range got {
			got[i] ^= 0xff
		}
		if string(b) != "abc" || string(again) != "abc"+c.want {
			t.Errorf("%s: the result shares memory", c.name)
		}
	}
	l, n := []int{1, -2, 3}, []uint64{4, 5}
	PutInts(nil, l)
	Put(nil, n...)
	if !slices.Equal(l, []int{1, -2, 3}) || !slices.Equal(n, []uint64{4, 5}) {
		t.Error("a list was changed")
	}
}

func TestRead(t *testing.T) { // P4.2, P4.3
	r := New([]byte("\xac\x02\x00\x01\x7f\x01\x00\x02ab\x00\x02\x02\x7f\x00\x04"))
	for i, step := range []struct {
		read func() bool
		left int
	}{
		{func() bool { return true }, 16},
		{func() bool { return r.Uint(300) == 300 }, 14},
		{func() bool { return r.Uint(0) == 0 }, 13},
		{func() bool { return r.Int() == -1 }, 12},
		{func() bool { return r.Int() == -64 }, 11},
		{func() bool { return r.Bool() }, 10},
		{func() bool { return !r.Bool() }, 9},
		{func() bool { return r.Text(2) == "ab" }, 6},
		{func() bool { return r.Text(0) == "" }, 5},
		{func() bool { return slices.Equal(r.Ints(2), []int{1, -64}) }, 2},
		{func() bool { return len(r.Ints(0)) == 0 }, 1},
		{func() bool { return r.Int() == 2 }, 0},
	} {
		if !step.read() || r.Left() != step.left || r.Err() != api.OK {
			t.Errorf("step %d: %d left, error %d", i, r.Left(), int(r.Err()))
		}
	}
	if r.Int() != 0 || r.Err() != api.ErrShort || r.Left() != 0 {
		t.Error("after the last value", int(r.Err()), r.Left())
	}
}

// nine is the beginning of a number of ten bytes.
const nine = "\xff\xff\xff\xff\xff\xff\xff\xff\xff"

func TestNumberErrors(t *testing.T) { // P4.2
	for _, c := range []struct {
		s    string
		want api.Errno
	}{
		{"", api.ErrShort}, {"\x80", api.ErrShort}, {"\xff\xff", api.ErrShort}, {nine, api.ErrShort},
		{"\x80\x00", api.ErrForm}, {"\x80\x80\x00", api.ErrForm}, {"\xff\x00", api.ErrForm}, {"\x80\x00\x80", api.ErrForm},
		{nine + "\x00", api.ErrForm}, {nine + "\x02", api.ErrForm}, {nine + "\x7f", api.ErrForm}, {nine + "\x80", api.ErrForm},
		{nine + "\x81", api.ErrForm}, {nine + "\xff", api.ErrForm}, {nine + "\x81\x00", api.ErrForm},
		{nine + "\x01", api.OK}, {"\x80\x80\x80\x80\x80\x80\x80\x80\x80\x01", api.OK}, {"\x00", api.OK}, {"\x00\x00", api.OK}, {"\x80\x01", api.OK},
	} {
		for name, read := range map[string]func(r *Reader){
			"Uint": func(r *Reader) { r.Uint(math.MaxUint64) },
			"Int":  func(r *Reader) { r.Int() },
		} {
			r := New([]byte(c.s))
			read(r)
			if r.Err() != c.want {
				t.Errorf("%s of %x: %d", name, c.s, int(r.Err()))
			}
		}
		for name, read := range map[string]func(r *Reader){
			"Bool": func(r *Reader) { r.Bool() },
			"Text": func(r *Reader) { r.Text(math.MaxInt) },
			"Ints": func(r *Reader) { r.Ints(math.MaxInt) },
		} {
			r := New([]byte(c.s))
			read(r)
			if c.want != api.OK && r.Err() != c.want {
				t.Errorf("%s of %x: %d", name, c.s, int(r.Err()))
			}
		}
	}
}

func TestReadErrors(t *testing.T) { // P4.2
	for _, c := range []struct {
		name, s string
		read    func(r *Reader) bool
		want    api.Errno
	}{
		{"Uint above most", "\x05", func(r *Reader) bool { return r.Uint(4) == 0 }, api.ErrRange},
		{"Uint above 0", "\x01", func(r *Reader) bool { return r.Uint(0) == 0 }, api.ErrRange},
		{"Uint of most", "\x05", func(r *Reader) bool { return r.Uint(5) == 5 }, api.OK},
		{"Uint below the greatest", nine + "\x01", func(r *Reader) bool { return r.Uint(math.MaxUint64-1) == 0 }, api.ErrRange},
		{"Uint malformed and too great", "\xff\x00", func(r *Reader) bool { return r.Uint(4) == 0 }, api.ErrForm},
		{"Uint short and too great", "\xff\xff", func(r *Reader) bool { return r.Uint(4) == 0 }, api.ErrShort},
		{"Bool of 2", "\x02", func(r *Reader) bool { return !r.Bool() }, api.ErrRange},
		{"Bool of 129", "\x81\x01", func(r *Reader) bool { return !r.Bool() }, api.ErrRange},
		{"Text above most", "\x02ab", func(r *Reader) bool { return r.Text(1) == "" }, api.ErrRange},
		{"Text above most and short", "\x09ab", func(r *Reader) bool { return r.Text(8) == "" }, api.ErrRange},
		{"Text short", "\x02a", func(r *Reader) bool { return r.Text(2) == "" }, api.ErrShort},
		{"Text of no bytes", "\x01", func(r *Reader) bool { return r.Text(1) == "" }, api.ErrShort},
		{"Text of the greatest length", "\xff\xff\xff\xff\xff\xff\xff\xff\x7fa", func(r *Reader) bool { return r.Text(math.MaxInt) == "" }, api.ErrShort},
		{"Text beyond int", nine + "\x01a", func(r *Reader) bool { return r.Text(math.MaxInt) == "" }, api.ErrRange},
		{"Text and a negative most", "\x01a", func(r *Reader) bool { return r.Text(-1) == "" }, api.ErrRange},
		{"Text and the least most", "\x01a", func(r *Reader) bool { return r.Text(math.MinInt) == "" }, api.ErrRange},
		{"no text and a negative most", "\x00a", func(r *Reader) bool { return r.Text(-1) == "" }, api.OK},
		{"Ints above most", "\x02\x00\x00", func(r *Reader) bool { return len(r.Ints(1)) == 0 }, api.ErrRange},
		{"Ints above most and short", "\x09\x00", func(r *Reader) bool { return len(r.Ints(8)) == 0 }, api.ErrRange},
		{"Ints short", "\x02\x00", func(r *Reader) bool { return len(r.Ints(9)) == 0 }, api.ErrShort},
		{"Ints cut within an element", "\x02\x00\x80", func(r *Reader) bool { return len(r.Ints(2)) == 0 }, api.ErrShort},
		{"Ints of the greatest length", "\xff\xff\xff\xff\xff\xff\xff\xff\x7f\x00", func(r *Reader) bool { return len(r.Ints(math.MaxInt)) == 0 }, api.ErrShort},
		{"Ints beyond int", nine + "\x01\x00", func(r *Reader) bool { return len(r.Ints(math.MaxInt)) == 0 }, api.ErrRange},
		{"Ints with a malformed element", "\x02\x01\x80\x00", func(r *Reader) bool { return len(r.Ints(2)) == 0 }, api.ErrForm},
		{"Ints malformed before short", "\x03\x80\x00", func(r *Reader) bool { return len(r.Ints(3)) == 0 }, api.ErrForm},
		{"Ints and a negative most", "\x01\x00", func(r *Reader) bool { return len(r.Ints(-1)) == 0 }, api.ErrRange},
		{"no ints and a negative most", "\x00\x00", func(r *Reader) bool { return len(r.Ints(math.MinInt)) == 0 }, api.OK},
	} {
		r := New([]byte(c.s))
		if !c.read(r) || r.Err() != c.want {
			t.Errorf("%s: error %d", c.name, int(r.Err()))
		}
	}
}

func TestAfterError(t *testing.T) { // P4.2, P4.3
	for _, c := range []struct {
		s    string
		want api.Errno
	}{{"\x80\x00\x01\x01a", api.ErrForm}, {"\x02\x01\x01a\x01", api.ErrRange}, {"\x80", api.ErrShort}} {
		r := New([]byte(c.s))
		if r.Uint(1) != 0 || r.Left() != 0 {
			t.Errorf("%x: %d left", c.s, r.Left())
		}
		for range 2 {
			if r.Uint(math.MaxUint64) != 0 || r.Int() != 0 || r.Bool() || r.Text(9) != "" || len(r.Ints(9)) != 0 || r.Left() != 0 || r.Err() != c.want {
				t.Errorf("%x: error %d, %d left", c.s, int(r.Err()), r.Left())
			}
		}
	}
}

func TestReaderWithoutBytes(t *testing.T) { // P4.2, P4.3
	for _, r := range []*Reader{New(nil), New([]byte{}), {}} {
		if r == nil || r.Left() != 0 || r.Err() != api.OK {
			t.Fatal("a Reader without bytes")
		}
		if r.Text(4) != "" || r.Err() != api.ErrShort {
			t.Error(int(r.Err()))
		}
	}
}

func TestNilReader(t *testing.T) { // P4.2, P4.3
	var r *Reader
	if r.Uint(9) != 0 || r.Int() != 0 || r.Bool() || r.Text(9) != "" || len(r.Ints(9)) != 0 || r.Left() != 0 || r.Err() != api.ErrArg {
		t.Error("a nil Reader")
	}
}

func TestReaderMemory(t *testing.T) { // P4.2, and rule 4 of DOC.md
	b, whole := spare("\x02ab\x01\x02\x02ab\x01\x02")
	r, other := New(b), New(b)
	clear(whole)
	if r.Text(2) != "ab" {
		t.Error("New keeps the bytes")
	}
	l := r.Ints(1)
	l[0] = 9
	if r.Text(2) != "ab" || !slices.Equal(r.Ints(1), []int{1}) || r.Left() != 0 {
		t.Error("a list shares memory")
	}
	if other.Left() != 10 || other.Text(2) != "ab" {
		t.Error("two Readers share what they keep")
	}
}

func TestInverse(t *testing.T) { // P4.4
	for _, n := range numbers() {
		if r := New(Put(nil, n)); r.Uint(n) != n || r.Left() != 0 || r.Err() != api.OK {
			t.Errorf("Uint of %d", n)
		}
	}
	for _, n := range ints() {
		if r := New(PutInt(nil, n)); r.Int() != n || r.Left() != 0 || r.Err() != api.OK {
			t.Errorf("Int of %d", n)
		}
	}
	for _, v := range []bool{false, true} {
		if r := New(PutBool(nil, v)); r.Bool() != v || r.Left() != 0 || r.Err() != api.OK {
			t.Errorf("Bool of %t", v)
		}
	}
	for _, size := range []int{0, 1, 2, 127, 128, 129, 16383, 16384} {
		text := strings.Repeat("\xc3\x00x", size)[:size]
		if r := New(PutText(nil, text)); r.Text(size) != text || r.Left() != 0 || r.Err() != api.OK {
			t.Errorf("Text of %d bytes", size)
		}
		list := slices.Repeat(ints(), size/len(ints())+1)[:size]
		if r := New(PutInts(nil, list)); !slices.Equal(r.Ints(size), list) || r.Left() != 0 || r.Err() != api.OK {
			t.Errorf("Ints of %d elements", size)
		}
	}
}

// eachBytes calls f with every string of up to size bytes of the alphabet.
func eachBytes(alphabet string, size int, f func(b []byte)) {
	var extend func(b []byte)
	extend = func(b []byte) {
		f(slices.Clone(b))
		if len(b) < size {
			for i := range len(alphabet) {
				extend(append(slices.Clone(b), alphabet[i]))
			}
		}
	}
	extend(nil)
}

func TestEncodedAgain(t *testing.T) { // P4.4: only one string of bytes decodes to a value
	eachBytes("\x00\x01\x02\x03\x7f\x80\x81\xff", 5, func(b []byte) {
		for name, again := range map[string]func(r *Reader) []byte{
			"Uint": func(r *Reader) []byte { return Put(nil, r.Uint(math.MaxUint64)) },
			"Int":  func(r *Reader) []byte { return PutInt(nil, r.Int()) },
			"Bool": func(r *Reader) []byte { return PutBool(nil, r.Bool()) },
			"Text": func(r *Reader) []byte { return PutText(nil, r.Text(9)) },
			"Ints": func(r *Reader) []byte { return PutInts(nil, r.Ints(9)) },
		} {
			r := New(b)
			got := again(r)
			if r.Err() == api.OK && !bytes.Equal(got, b[:len(b)-r.Left()]) {
				t.Fatalf("%s of %x: %x", name, b, got)
			}
		}
	})
	for last := range 256 { // the numbers of ten bytes
		b := append([]byte(nine), byte(last))
		if r := New(b); bytes.Equal(Put(nil, r.Uint(math.MaxUint64)), b) != (r.Err() == api.OK) || (r.Err() == api.OK) != (last == 1) {
			t.Errorf("%x: error %d", b, int(r.Err()))
		}
	}
}

func TestExamples(t *testing.T) { // the examples of chapter 04
	if got := Put([]byte("x"), 300); string(got) != "x\xac\x02" {
		t.Errorf("%x", got)
	}
	if got := PutInt([]byte("x"), -1); string(got) != "x\x01" {
		t.Errorf("%x", got)
	}
	r := New([]byte("\x80\x00"))
	if r.Uint(math.MaxUint64) != 0 || r.Err() != api.ErrForm {
		t.Error(int(r.Err()))
	}
}
