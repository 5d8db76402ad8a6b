package pack_test

import (
	"bytes"
	"encoding/binary"
	"math"
	"math/big"
	"math/rand"
	"slices"
	"testing"

	"outstation/api"
	"outstation/pack"
)

// wrongWidths are those n that no number has.
func wrongWidths() []int {
	return []int{math.MinInt, -9, -8, -1, 0, 9, 10, 16, 64, 1 << 32, math.MaxInt - 7, math.MaxInt}
}

// isBelow says whether v is below 256 to the power of n, in true numbers.
func isBelow(v uint64, n int) bool {
	top := new(big.Int).Exp(big.NewInt(256), big.NewInt(int64(n)), nil)
	return new(big.Int).SetUint64(v).Cmp(top) < 0
}

// numbers are the edges of every width, and a fixed sample between them.
func numbers() []uint64 {
	r := rand.New(rand.NewSource(1))
	out := []uint64{0, 1, 2, 127, 128, 254, 0x0102030405060708, 0xF1F2F3F4F5F6F7F8, math.MaxUint64 - 1, math.MaxUint64}
	for k := 8; k < 64; k += 8 {
		top := uint64(1) << k
		out = append(out, top-2, top-1, top, top+1)
	}
	for k := range 64 {
		out = append(out, 1<<k, r.Uint64()>>k)
	}
	return out
}

// rows are rows of many lengths, alike in every run.
func rows(n int) [][]byte {
	r := rand.New(rand.NewSource(2))
	out := [][]byte{nil, {}, {0}, {0xFF}, {0, 0}, {0xFF, 0xFF}}
	for k := range n {
		b := make([]byte, k)
		r.Read(b)
		out = append(out, b)
	}
	return out
}

// bitRows are bits of every count up to n: none on, all on, and some.
func bitRows(n int) [][]bool {
	r := rand.New(rand.NewSource(3))
	var out [][]bool
	for k := range n + 1 {
		some := make([]bool, k)
		for i := range some {
			some[i] = r.Intn(2) == 1
		}
		out = append(out, make([]bool, k), slices.Repeat([]bool{true}, k), some)
	}
	return out
}

// wordRows are words of every count up to n.
func wordRows(n int) [][]uint16 {
	r := rand.New(rand.NewSource(4))
	out := [][]uint16{nil, {0}, {1}, {255}, {256}, {0xFFFF}}
	for k := range n + 1 {
		l := make([]uint16, k)
		for i := range l {
			l[i] = uint16(r.Uint32())
		}
		out = append(out, l)
	}
	return out
}

// P2.1

func TestPutExamples(t *testing.T) {
	for _, c := range []struct {
		b     []byte
		v     uint64
		n     int
		want  string
		errno api.Errno
	}{
		{[]byte{9}, 258, 2, "\x09\x01\x02", api.OK},
		{nil, 256, 1, "", api.ErrRange},
		{nil, 0, 9, "", api.ErrRange},
		{nil, 0, 0, "", api.ErrRange},
		{nil, 0, -1, "", api.ErrRange},
		{nil, 255, 1, "\xff", api.OK},
		{[]byte{}, 0, 1, "\x00", api.OK},
		{nil, 65535, 2, "\xff\xff", api.OK},
		{nil, 65536, 2, "", api.ErrRange},
		{nil, 1, 8, "\x00\x00\x00\x00\x00\x00\x00\x01", api.OK},
		{nil, 1<<56 - 1, 7, "\xff\xff\xff\xff\xff\xff\xff", api.OK},
		{nil, 1 << 56, 7, "", api.ErrRange},
		{[]byte{1, 2}, math.MaxUint64, 8, "\x01\x02\xff\xff\xff\xff\xff\xff\xff\xff", api.OK},
		{[]byte{1, 2}, math.MaxUint64, 9, "", api.ErrRange},
	} {
		b, errno := pack.Put(c.b, c.v, c.n)
		if string(b) != c.want || errno != c.errno {
			t.Errorf("Put of % x, %d, %d: % x, %d", c.b, c.v, c.n, b, errno)
		}
	}
}

func TestPut(t *testing.T) {
	for _, ahead := range rows(12) {
		for _, v := range numbers() {
			for n := 1; n <= 8; n++ {
				b, errno := pack.Put(ahead, v, n)
				if !isBelow(v, n) {
					if len(b) != 0 || errno != api.ErrRange {
						t.Fatalf("%d has no room in %d bytes: % x, %d", v, n, b, errno)
					}
					continue
				}
				whole := binary.BigEndian.AppendUint64(nil, v)
				if want := string(ahead) + string(whole[8-n:]); string(b) != want || errno != api.OK {
					t.Fatalf("Put of % x, %d, %d: % x, %d", ahead, v, n, b, errno)
				}
			}
		}
	}
}

func TestPutWrongWidth(t *testing.T) {
	for _, n := range wrongWidths() {
		for _, v := range []uint64{0, 1, math.MaxUint64} {
			for _, ahead := range rows(3) {
				if b, errno := pack.Put(ahead, v, n); len(b) != 0 || errno != api.ErrRange {
					t.Errorf("Put of % x, %d, %d: % x, %d", ahead, v, n, b, errno)
				}
			}
		}
	}
}

// P2.2

func TestGetExamples(t *testing.T) {
	b := []byte{9, 1, 2}
	for _, c := range []struct {
		at, n int
		want  uint64
		errno api.Errno
	}{
		{1, 2, 258, api.OK},
		{2, 2, 0, api.ErrShort},
		{1, 0, 0, api.ErrRange},
		{0, 1, 9, api.OK},
		{2, 1, 2, api.OK},
		{0, 3, 9<<16 + 258, api.OK},
		{0, 4, 0, api.ErrShort},
		{3, 1, 0, api.ErrShort},
		{4, 1, 0, api.ErrShort},
		{-1, 1, 0, api.ErrShort},
		{-1, 4, 0, api.ErrShort},
		{math.MinInt, 8, 0, api.ErrShort},
		{math.MaxInt, 1, 0, api.ErrShort},
		{math.MaxInt, 8, 0, api.ErrShort},
		{math.MaxInt - 7, 8, 0, api.ErrShort},
		{0, 9, 0, api.ErrRange},
		{0, -1, 0, api.ErrRange},
	} {
		if v, errno := pack.Get(b, c.at, c.n); v != c.want || errno != c.errno {
			t.Errorf("Get of % x at %d, %d: %d, %d", b, c.at, c.n, v, errno)
		}
	}
}

func TestGet(t *testing.T) {
	for _, b := range rows(24) {
		for n := 1; n <= 8; n++ {
			for at := -3; at <= len(b)+3; at++ {
				v, errno := pack.Get(b, at, n)
				if at < 0 || at+n > len(b) {
					if v != 0 || errno != api.ErrShort {
						t.Fatalf("Get of % x at %d, %d: %d, %d", b, at, n, v, errno)
					}
					continue
				}
				if want := new(big.Int).SetBytes(b[at : at+n]).Uint64(); v != want || errno != api.OK {
					t.Fatalf("Get of % x at %d, %d: %d, %d, not %d", b, at, n, v, errno, want)
				}
			}
		}
	}
}

// Of two errors the one that the chapter names first: the width is asked ahead of the place.
func TestGetWidthAheadOfPlace(t *testing.T) {
	for _, n := range wrongWidths() {
		for _, at := range []int{math.MinInt, -1, 0, 1, 2, 3, math.MaxInt} {
			for _, b := range [][]byte{nil, {1}, {1, 2}, make([]byte, 20)} {
				if v, errno := pack.Get(b, at, n); v != 0 || errno != api.ErrRange {
					t.Errorf("Get of % x at %d, %d: %d, %d", b, at, n, v, errno)
				}
			}
		}
	}
}

// What lies behind a list's end is not part of it.
func TestGetDoesNotReadTheSpareRoom(t *testing.T) {
	b := []byte{1, 2, 3, 4}[:2]
	if v, errno := pack.Get(b, 1, 2); v != 0 || errno != api.ErrShort {
		t.Errorf("%d, %d", v, errno)
	}
	if v, errno := pack.Get(b, 2, 1); v != 0 || errno != api.ErrShort {
		t.Errorf("%d, %d", v, errno)
	}
}

// P2.3

func TestBitsExamples(t *testing.T) {
	nine := slices.Repeat([]bool{true}, 9)
	for _, c := range []struct {
		l    []bool
		want string
	}{
		{nil, ""},
		{[]bool{}, ""},
		{[]bool{false}, "\x00"},
		{[]bool{true}, "\x01"},
		{[]bool{true, false, true}, "\x05"},
		{[]bool{false, false, false, false, false, false, false, true}, "\x80"},
		{nine[:8], "\xff"},
		{nine, "\xff\x01"},
		{make([]bool, 9), "\x00\x00"},
		{make([]bool, 16), "\x00\x00"},
	} {
		if b := pack.Bits(c.l); string(b) != c.want {
			t.Errorf("Bits of %v: % x", c.l, b)
		}
	}
}

func TestBits(t *testing.T) {
	for _, l := range bitRows(70) {
		b := pack.Bits(l)
		if 8*len(b) < len(l) || 8*len(b) >= len(l)+8 {
			t.Fatalf("%d bits stand in %d bytes", len(l), len(b))
		}
		for i := range 8 * len(b) {
			on := i < len(l) && l[i]
			if is := b[i/8]>>(i%8)&1 == 1; is != on {
				t.Fatalf("Bits of %v: % x: bit %d", l, b, i)
			}
		}
	}
}

func TestUnbitsExamples(t *testing.T) {
	for _, c := range []struct {
		b     []byte
		n     int
		want  []bool
		errno api.Errno
	}{
		{[]byte{5}, 3, []bool{true, false, true}, api.OK},
		{[]byte{5}, 2, nil, api.ErrForm},
		{[]byte{5}, 9, nil, api.ErrCount},
		{nil, 0, nil, api.OK},
		{[]byte{}, 0, nil, api.OK},
		{[]byte{5}, -1, nil, api.ErrRange},
		{[]byte{0}, 0, nil, api.ErrCount},
		{nil, 1, nil, api.ErrCount},
		{[]byte{0x80}, 8, []bool{false, false, false, false, false, false, false, true}, api.OK},
		{[]byte{0x80}, 7, nil, api.ErrForm},
		{[]byte{0xFF, 1}, 9, slices.Repeat([]bool{true}, 9), api.OK},
		{[]byte{0xFF, 0}, 8, nil, api.ErrCount},
		{[]byte{0xFF}, 9, nil, api.ErrCount},
		{[]byte{0xFF, 2}, 9, nil, api.ErrForm},
		{[]byte{0xFF, 0x80}, 9, nil, api.ErrForm},
	} {
		if l, errno := pack.Unbits(c.b, c.n); !slices.Equal(l, c.want) || errno != c.errno {
			t.Errorf("Unbits of % x, %d: %v, %d", c.b, c.n, l, errno)
		}
	}
}

func TestUnbits(t *testing.T) {
	for _, b := range rows(9) {
		for n := range 90 {
			l, errno := pack.Unbits(b, n)
			if want := unbitsErrno(b, n); errno != want {
				t.Fatalf("Unbits of % x, %d: %d, not %d", b, n, errno, want)
			}
			if errno != api.OK {
				if len(l) != 0 {
					t.Fatalf("Unbits of % x, %d: %v beside an error", b, n, l)
				}
				continue
			}
			if len(l) != n {
				t.Fatalf("Unbits of % x, %d: %d bits", b, n, len(l))
			}
			for i, on := range l {
				if on != (b[i/8]>>(i%8)&1 == 1) {
					t.Fatalf("Unbits of % x, %d: bit %d", b, n, i)
				}
			}
		}
	}
}

// unbitsErrno is the first error of Unbits that applies, for n from 0 on.
func unbitsErrno(b []byte, n int) api.Errno {
	if len(b) != (n+7)/8 {
		return api.ErrCount
	}
	if n%8 != 0 && b[len(b)-1]>>(n%8) != 0 {
		return api.ErrForm
	}
	return api.OK
}

// Each spare bit alone is seen, at every count.
func TestUnbitsSeesEachSpareBit(t *testing.T) {
	for _, l := range bitRows(34) {
		b := pack.Bits(l)
		for i := len(l); i < 8*len(b); i++ {
			turned := bytes.Clone(b)
			turned[i/8] |= 1 << (i % 8)
			if got, errno := pack.Unbits(turned, len(l)); len(got) != 0 || errno != api.ErrForm {
				t.Errorf("Unbits of % x, %d: %v, %d", turned, len(l), got, errno)
			}
		}
	}
}

// Of several errors the one that the chapter names first: ErrRange, ErrCount, ErrForm.
func TestUnbitsFirstError(t *testing.T) {
	for _, b := range [][]byte{nil, {0}, {0xFF}, {0xFF, 0xFF}} {
		for _, n := range []int{-1, -7, -8, -9, math.MinInt, math.MinInt + 1} {
			if l, errno := pack.Unbits(b, n); len(l) != 0 || errno != api.ErrRange {
				t.Errorf("Unbits of % x, %d: %v, %d", b, n, l, errno)
			}
		}
	}
	for _, c := range []struct {
		b []byte
		n int
	}{
		{[]byte{0xFF}, 0}, {[]byte{0xFF, 0xFF}, 7}, {[]byte{0xFF, 0xFF}, 1}, {[]byte{0xFF}, 9}, {[]byte{0xFF}, 15},
		{nil, math.MaxInt}, {[]byte{0xFF}, math.MaxInt}, {nil, math.MaxInt - 6}, {nil, math.MaxInt - 7}, {[]byte{0}, 1 << 32}, {nil, 1 << 62},
	} {
		if l, errno := pack.Unbits(c.b, c.n); len(l) != 0 || errno != api.ErrCount {
			t.Errorf("Unbits of % x, %d: %v, %d", c.b, c.n, l, errno)
		}
	}
}

// P2.4

func TestBytes(t *testing.T) {
	if b := pack.Bytes([]uint16{1, 512}); string(b) != "\x00\x01\x02\x00" {
		t.Errorf("% x", b)
	}
	for _, l := range wordRows(40) {
		var want []byte
		for _, w := range l {
			want = binary.BigEndian.AppendUint16(want, w)
		}
		if b := pack.Bytes(l); !bytes.Equal(b, want) {
			t.Errorf("Bytes of %v: % x", l, b)
		}
	}
}

func TestWords(t *testing.T) {
	if l, errno := pack.Words([]byte{0, 1, 2, 0}); !slices.Equal(l, []uint16{1, 512}) || errno != api.OK {
		t.Errorf("%v, %d", l, errno)
	}
	if l, errno := pack.Words([]byte{0}); len(l) != 0 || errno != api.ErrCount {
		t.Errorf("of 00: %v, %d", l, errno)
	}
	for _, b := range rows(80) {
		l, errno := pack.Words(b)
		if len(b)%2 == 1 {
			if len(l) != 0 || errno != api.ErrCount {
				t.Errorf("Words of % x: %v, %d", b, l, errno)
			}
			continue
		}
		if errno != api.OK || len(l) != len(b)/2 {
			t.Fatalf("Words of % x: %v, %d", b, l, errno)
		}
		for i, w := range l {
			if w != binary.BigEndian.Uint16(b[2*i:]) {
				t.Errorf("Words of % x: %v", b, l)
			}
		}
	}
}

func TestEveryWord(t *testing.T) {
	for w := range 1 << 16 {
		b := pack.Bytes([]uint16{uint16(w)})
		if len(b) != 2 || int(b[0]) != w/256 || int(b[1]) != w%256 {
			t.Fatalf("Bytes of %d: % x", w, b)
		}
		if l, errno := pack.Words(b); len(l) != 1 || int(l[0]) != w || errno != api.OK {
			t.Fatalf("Words of % x: %v, %d", b, l, errno)
		}
	}
}

// P2.5

func TestGetOfWhatPutPut(t *testing.T) {
	for _, ahead := range rows(10) {
		for _, behind := range rows(3) {
			for _, v := range numbers() {
				for n := 1; n <= 8; n++ {
					b, errno := pack.Put(ahead, v, n)
					if errno != api.OK {
						continue
					}
					b = append(b, behind...)
					if g, errno := pack.Get(b, len(ahead), n); g != v || errno != api.OK {
						t.Fatalf("Get of % x at %d, %d: %d, %d, not %d", b, len(ahead), n, g, errno, v)
					}
				}
			}
		}
	}
}

func TestGreaterNumbersHaveGreaterBytes(t *testing.T) {
	all := numbers()
	for n := 1; n <= 8; n++ {
		for _, v := range all {
			for _, w := range all {
				if !isBelow(v, n) || !isBelow(w, n) {
					continue
				}
				a, _ := pack.Put(nil, v, n)
				b, _ := pack.Put(nil, w, n)
				if got, want := bytes.Compare(a, b), new(big.Int).SetUint64(v).Cmp(new(big.Int).SetUint64(w)); got != want {
					t.Fatalf("%d and %d in %d bytes: % x and % x", v, w, n, a, b)
				}
			}
		}
	}
}

// P2.6

func TestUnbitsOfBits(t *testing.T) {
	for _, l := range bitRows(100) {
		if g, errno := pack.Unbits(pack.Bits(l), len(l)); !slices.Equal(g, l) || errno != api.OK {
			t.Errorf("%v comes back as %v, %d", l, g, errno)
		}
	}
}

func TestBitsOfUnbits(t *testing.T) {
	told := 0
	for _, b := range rows(20) {
		for n := range 8*len(b) + 1 {
			l, errno := pack.Unbits(b, n)
			if errno != api.OK {
				continue
			}
			told++
			if g := pack.Bits(l); !bytes.Equal(g, b) {
				t.Errorf("% x, %d comes back as % x", b, n, g)
			}
		}
	}
	if told < 26 { // every row is told at least as all its bits
		t.Errorf("only %d rows are told", told)
	}
}

func TestWordsOfBytesAndBytesOfWords(t *testing.T) {
	for _, l := range wordRows(60) {
		if g, errno := pack.Words(pack.Bytes(l)); !slices.Equal(g, l) || errno != api.OK {
			t.Errorf("%v comes back as %v, %d", l, g, errno)
		}
	}
	for _, b := range rows(60) {
		if len(b)%2 == 1 {
			continue
		}
		l, errno := pack.Words(b)
		if g := pack.Bytes(l); !bytes.Equal(g, b) || errno != api.OK {
			t.Errorf("% x comes back as % x, %d", b, g, errno)
		}
	}
}

// R3

// roomy is l with spare room behind its end, and the whole of that memory.
func roomy[T any](l []T, spare T) ([]T, []T) {
	whole := append(slices.Clone(l), slices.Repeat([]T{spare}, 16)...)
	return whole[:len(l)], whole
}

// fill writes over a list and all its spare room.
func fill[T any](l []T, v T) {
	l = l[:cap(l)]
	for i := range l {
		l[i] = v
	}
}

// holdsR3 asks a call twice of a list with spare room, and writes over an answer, then over the list.
func holdsR3[T, U comparable](t *testing.T, name string, l []T, spare T, over U, call func([]T) []U) {
	t.Helper()
	in, whole := roomy(l, spare)
	before := slices.Clone(whole)
	one, two := call(in), call(in)
	if !slices.Equal(whole, before) {
		t.Errorf("%s changed what was handed in: %v to %v", name, before, whole)
	}
	want := slices.Clone(two)
	if !slices.Equal(one, want) {
		t.Errorf("%s of %v answers unlike: %v and %v", name, l, one, two)
	}
	fill(one, over)
	if !slices.Equal(whole, before) || !slices.Equal(two, want) {
		t.Errorf("%s of %v hands out shared memory", name, l)
	}
	var zero T
	fill(whole, zero)
	if !slices.Equal(two, want) {
		t.Errorf("%s of %v keeps what was handed in", name, l)
	}
}

func TestMemoryOfPut(t *testing.T) {
	for _, b := range rows(12) {
		for n := 0; n <= 9; n++ {
			holdsR3(t, "Put", b, 0xA5, 0x3C, func(in []byte) []byte {
				out, _ := pack.Put(in, 7, n)
				return out
			})
		}
	}
}

func TestMemoryOfGet(t *testing.T) {
	for _, b := range rows(12) {
		for at := -1; at <= len(b); at++ {
			holdsR3(t, "Get", b, 0xA5, 0, func(in []byte) []uint64 {
				v, _ := pack.Get(in, at, 2)
				return []uint64{v}
			})
		}
	}
}

func TestMemoryOfBits(t *testing.T) {
	for _, l := range bitRows(20) {
		holdsR3(t, "Bits", l, true, 0x3C, pack.Bits)
		b := pack.Bits(l)
		for _, n := range []int{-1, len(l) - 1, len(l), len(l) + 9} {
			for _, over := range []bool{false, true} {
				holdsR3(t, "Unbits", b, 0xA5, over, func(in []byte) []bool {
					out, _ := pack.Unbits(in, n)
					return out
				})
			}
		}
	}
}

func TestMemoryOfWords(t *testing.T) {
	for _, l := range wordRows(12) {
		holdsR3(t, "Bytes", l, 0xA5A5, 0x3C, pack.Bytes)
	}
	for _, b := range rows(12) {
		holdsR3(t, "Words", b, 0xA5, 0x3C3C, func(in []byte) []uint16 {
			out, _ := pack.Words(in)
			return out
		})
	}
}
