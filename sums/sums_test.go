package sums_test

import (
	"bytes"
	"hash/crc32"
	"math/bits"
	"math/rand"
	"testing"

	"outstation/api"
	"outstation/sums"
)

// byDivision16 is the sum of 16 bits found another way: the row as one long polynomial, its register turned about, highest bit first.
func byDivision16(crc uint16, b []byte) uint16 {
	r := bits.Reverse16(crc)
	for _, v := range b {
		for i := range 8 {
			in := uint16(v>>i) & 1
			out := r >> 15
			r <<= 1
			if in != out {
				r ^= 0x8005
			}
		}
	}
	return bits.Reverse16(r)
}

// rows are rows of many lengths, alike in every run.
func rows(n int) [][]byte {
	r := rand.New(rand.NewSource(1))
	out := [][]byte{nil, {}, {0}, {0xFF}, {0, 0}, {0xFF, 0xFF}, {0, 0, 0, 0}, {0xFF, 0xFF, 0xFF, 0xFF}}
	for k := range n {
		b := make([]byte, k)
		r.Read(b)
		out = append(out, b)
	}
	return out
}

// turned is b with the pattern's bits turned, from a bit on, in each byte from the lowest bit on; nothing if the pattern does not fit.
func turned(b []byte, from int, pattern uint64) []byte {
	out := bytes.Clone(b)
	for ; pattern != 0; pattern >>= 1 {
		if pattern&1 == 1 {
			if from >= 8*len(out) {
				return nil
			}
			out[from/8] ^= 1 << (from % 8)
		}
		from++
	}
	return out
}

// P1.1

func TestMore16(t *testing.T) {
	for crc := range 1 << 16 {
		if g := sums.More16(uint16(crc), nil); g != uint16(crc) {
			t.Fatalf("no bytes: register %04x comes to %04x", crc, g)
		}
		b := []byte{byte(crc * 7)}
		if g, w := sums.More16(uint16(crc), b), byDivision16(uint16(crc), b); g != w {
			t.Fatalf("register %04x takes % x: %04x, not %04x", crc, b, g, w)
		}
	}
	for v := range 256 {
		for _, crc := range []uint16{0, 1, 0x8000, 0xA001, 0xFFFF} {
			b := []byte{byte(v)}
			if g, w := sums.More16(crc, b), byDivision16(crc, b); g != w {
				t.Errorf("register %04x takes % x: %04x, not %04x", crc, b, g, w)
			}
		}
	}
	for i, b := range rows(300) {
		crc := uint16(i * 40503)
		if g, w := sums.More16(crc, b), byDivision16(crc, b); g != w {
			t.Errorf("register %04x takes % x: %04x, not %04x", crc, b, g, w)
		}
	}
}

func TestMore16ByHand(t *testing.T) {
	for _, c := range []struct {
		crc  uint16
		b    []byte
		want uint16
	}{
		{0, []byte{0}, 0},
		{0, []byte{0x80}, 0xA001}, // the one bit falls out last
		{0, []byte{0x40}, 0xF001}, // A001 goes down once: 5000, and A001 over it
		{0x0100, []byte{0}, 0x0001},
		{0x0080, []byte{0x80}, 0},
	} {
		if g := sums.More16(c.crc, c.b); g != c.want {
			t.Errorf("register %04x takes % x: %04x, not %04x", c.crc, c.b, g, c.want)
		}
	}
}

func TestCrc16(t *testing.T) {
	for _, c := range []struct {
		b    string
		want uint16
	}{
		{"", 0xFFFF},
		{"123456789", 0x4B37},
		{"\x01\x03\x00\x00\x00\x0a", 0xCDC5},
		{"\xff\xff", 0},
	} {
		if g := sums.Crc16([]byte(c.b)); g != c.want {
			t.Errorf("%q: %04x, not %04x", c.b, g, c.want)
		}
	}
	for _, b := range rows(300) {
		if sums.Crc16(b) != sums.More16(0xFFFF, b) {
			t.Errorf("% x: Crc16 is not More16 of FFFF", b)
		}
	}
}

// P1.2

func TestMore32(t *testing.T) {
	r := rand.New(rand.NewSource(2))
	for _, b := range rows(300) {
		for _, crc := range []uint32{0, 1, 1 << 31, 0xEDB88320, 0xFFFFFFFF, r.Uint32()} {
			if g, w := sums.More32(crc, b), crc32.Update(crc, crc32.IEEETable, b); g != w {
				t.Errorf("%08x goes on with % x: %08x, not %08x", crc, b, g, w)
			}
		}
	}
	for v := range 256 {
		crc := r.Uint32()
		b := []byte{byte(v)}
		if g, w := sums.More32(crc, b), crc32.Update(crc, crc32.IEEETable, b); g != w {
			t.Errorf("%08x goes on with % x: %08x, not %08x", crc, b, g, w)
		}
	}
}

func TestMore32ByHand(t *testing.T) {
	for _, c := range []struct {
		crc  uint32
		b    []byte
		want uint32
	}{
		{^uint32(0), []byte{0}, ^uint32(0)},
		{^uint32(0), []byte{0x80}, ^uint32(0xEDB88320)},
		{^uint32(0), []byte{0x40}, ^uint32(0xEDB88320 >> 1)}, // its lowest bit is 0
		{^uint32(0x100), []byte{0}, ^uint32(1)},
	} {
		if g := sums.More32(c.crc, c.b); g != c.want {
			t.Errorf("%08x goes on with % x: %08x, not %08x", c.crc, c.b, g, c.want)
		}
	}
}

func TestCrc32(t *testing.T) {
	for _, c := range []struct {
		b    string
		want uint32
	}{
		{"", 0},
		{"123456789", 0xCBF43926},
		{"\x00", 0xD202EF8D},
		{"\xff\xff\xff\xff", 0xFFFFFFFF},
	} {
		if g := sums.Crc32([]byte(c.b)); g != c.want {
			t.Errorf("%q: %08x, not %08x", c.b, g, c.want)
		}
	}
	for _, b := range rows(300) {
		if sums.Crc32(b) != sums.More32(0, b) {
			t.Errorf("% x: Crc32 is not More32 of 0", b)
		}
	}
}

// P1.3

func TestSeal16(t *testing.T) {
	if g := sums.Seal16([]byte{1, 3, 0, 0, 0, 10}); string(g) != "\x01\x03\x00\x00\x00\x0a\xc5\xcd" {
		t.Errorf("% x", g)
	}
	if g := sums.Seal16(nil); string(g) != "\xff\xff" {
		t.Errorf("no bytes: % x", g)
	}
	for _, b := range rows(100) {
		c := byDivision16(0xFFFF, b)
		if g, w := sums.Seal16(b), string(b)+string([]byte{byte(c), byte(c >> 8)}); string(g) != w {
			t.Errorf("% x: % x", b, g)
		}
	}
}

func TestSeal32(t *testing.T) {
	if g := sums.Seal32([]byte("123456789")); string(g) != "123456789\x26\x39\xf4\xcb" {
		t.Errorf("% x", g)
	}
	if g := sums.Seal32(nil); string(g) != "\x00\x00\x00\x00" {
		t.Errorf("no bytes: % x", g)
	}
	for _, b := range rows(100) {
		c := crc32.ChecksumIEEE(b)
		w := string(b) + string([]byte{byte(c), byte(c >> 8), byte(c >> 16), byte(c >> 24)})
		if g := sums.Seal32(b); string(g) != w {
			t.Errorf("% x: % x", b, g)
		}
	}
}

// P1.4

type opener struct {
	name string
	size int
	seal func([]byte) []byte
	open func([]byte) ([]byte, api.Errno)
}

func openers() []opener {
	return []opener{
		{"16", 2, sums.Seal16, sums.Open16},
		{"32", 4, sums.Seal32, sums.Open32},
	}
}

func refused(t *testing.T, o opener, b []byte, want api.Errno) {
	t.Helper()
	if a, e := o.open(b); e != want || len(a) != 0 {
		t.Errorf("Open%s of % x: % x, %d; not %d", o.name, b, a, e, want)
	}
}

func TestOpenWhatWasSealed(t *testing.T) {
	for _, o := range openers() {
		for _, b := range rows(100) {
			if a, e := o.open(o.seal(b)); e != api.OK || !bytes.Equal(a, b) {
				t.Errorf("Open%s of % x sealed: % x, %d", o.name, b, a, e)
			}
		}
	}
}

func TestOpenExamples(t *testing.T) {
	if a, e := sums.Open16([]byte{0xFF, 0xFF}); e != api.OK || len(a) != 0 {
		t.Error(a, e)
	}
	if a, e := sums.Open32([]byte{0, 0, 0, 0}); e != api.OK || len(a) != 0 {
		t.Error(a, e)
	}
	if _, e := sums.Open16([]byte{5}); e != api.ErrShort {
		t.Error(e)
	}
	if _, e := sums.Open32([]byte{0, 0, 0, 1}); e != api.ErrSum {
		t.Error(e)
	}
	if _, e := sums.Open32([]byte{0, 0, 0}); e != api.ErrShort {
		t.Error(e)
	}
}

func TestOpenShort(t *testing.T) {
	for _, o := range openers() {
		refused(t, o, nil, api.ErrShort)
		for n := range o.size {
			refused(t, o, make([]byte, n), api.ErrShort)
			refused(t, o, bytes.Repeat([]byte{0xFF}, n), api.ErrShort)
			refused(t, o, o.seal(nil)[:n], api.ErrShort)
		}
	}
}

func TestOpenWrongSum(t *testing.T) {
	for _, o := range openers() {
		for _, b := range rows(40) {
			p := o.seal(b)
			for i := range o.size {
				for _, v := range []byte{1, 0x80, 0xFF} {
					q := bytes.Clone(p)
					q[len(b)+i] ^= v
					refused(t, o, q, api.ErrSum)
				}
			}
		}
		p := o.seal([]byte("abcde"))
		q := bytes.Clone(p)
		for i := range o.size {
			q[5+i] = p[len(p)-1-i]
		}
		refused(t, o, q, api.ErrSum) // the highest byte first
		refused(t, o, p[:len(p)-1], api.ErrSum)
		refused(t, o, append(bytes.Clone(p), 1), api.ErrSum)
		refused(t, o, append(bytes.Clone(p[len(p)-o.size:]), "abcde"...), api.ErrSum) // the sum ahead
	}
	for v := range 1 << 16 { // of all the ends that two bytes can be, one alone is a sum
		b := []byte{7, byte(v), byte(v >> 8)}
		if _, e := sums.Open16(b); (e == api.OK) != (uint16(v) == byDivision16(0xFFFF, b[:1])) {
			t.Fatalf("Open16 of % x: %d", b, e)
		}
	}
}

// P1.5

func TestPieces(t *testing.T) {
	for _, b := range rows(60) {
		for k := range len(b) + 1 {
			if sums.More16(sums.Crc16(b[:k]), b[k:]) != byDivision16(0xFFFF, b) {
				t.Errorf("16 bits, % x in pieces at %d", b, k)
			}
			if sums.More32(sums.Crc32(b[:k]), b[k:]) != crc32.ChecksumIEEE(b) {
				t.Errorf("32 bits, % x in pieces at %d", b, k)
			}
		}
	}
}

// P1.6

func TestSeen16(t *testing.T) {
	for n := 1; n <= 5; n++ {
		b := rows(6)[8+n]
		for from := range 8 * n {
			for pattern := uint64(1); pattern < 1<<16; pattern += 2 { // those with the first bit: the others begin further on
				if c := turned(b, from, pattern); c != nil && sums.Crc16(c) == sums.Crc16(b) {
					t.Fatalf("% x and % x have one sum of 16 bits", b, c)
				}
			}
		}
	}
}

func TestSeen32(t *testing.T) {
	r := rand.New(rand.NewSource(3))
	for n := 1; n <= 12; n++ {
		b := rows(13)[8+n]
		for from := range 8 * n {
			for _, pattern := range patterns32(r) {
				if c := turned(b, from, pattern); c != nil && sums.Crc32(c) == sums.Crc32(b) {
					t.Fatalf("% x and % x have one sum of 32 bits", b, c)
				}
			}
		}
	}
}

// patterns32 are some patterns of at most 32 bits: each single bit and each run among them.
func patterns32(r *rand.Rand) []uint64 {
	var out []uint64
	for i := range 32 {
		out = append(out, 1<<i, 1<<(i+1)-1, 1<<i|1)
	}
	for range 200 {
		out = append(out, uint64(r.Uint32())|1)
	}
	return out
}

func TestTurnedIsRefused16(t *testing.T) {
	p := sums.Seal16([]byte{9, 0, 0xFF})
	for from := range 8 * len(p) {
		for pattern := uint64(1); pattern < 1<<16; pattern += 2 {
			if c := turned(p, from, pattern); c != nil {
				if a, e := sums.Open16(c); e != api.ErrSum || len(a) != 0 {
					t.Fatalf("% x, sealed as % x: % x, %d", c, p, a, e)
				}
			}
		}
	}
}

func TestTurnedIsRefused32(t *testing.T) {
	r := rand.New(rand.NewSource(4))
	p := sums.Seal32([]byte{9, 0, 0xFF, 0x55, 1, 2})
	for from := range 8 * len(p) {
		for _, pattern := range patterns32(r) {
			if c := turned(p, from, pattern); c != nil {
				if a, e := sums.Open32(c); e != api.ErrSum || len(a) != 0 {
					t.Fatalf("% x, sealed as % x: % x, %d", c, p, a, e)
				}
			}
		}
	}
}

// Rows that differ within one bit more may have one sum: so the windows above are as wide as they can be.
func TestOwnNumbersAreTheEdge(t *testing.T) {
	if c := turned(make([]byte, 4), 3, 0xA001<<1|1); sums.Crc16(c) != sums.Crc16(make([]byte, 4)) {
		t.Errorf("17 bits: % x", c)
	}
	if c := turned(make([]byte, 8), 3, 0xEDB88320<<1|1); sums.Crc32(c) != sums.Crc32(make([]byte, 8)) {
		t.Errorf("33 bits: % x", c)
	}
}

// P1.7

func TestLaidOver(t *testing.T) {
	r := rand.New(rand.NewSource(5))
	for n := range 200 {
		a, b, c, zero := make([]byte, n), make([]byte, n), make([]byte, n), make([]byte, n)
		r.Read(a)
		r.Read(b)
		for i := range c {
			c[i] = a[i] ^ b[i]
		}
		if g, w := sums.Crc16(a)^sums.Crc16(b)^sums.Crc16(c), sums.Crc16(zero); g != w {
			t.Errorf("16 bits, % x and % x: %04x, not %04x", a, b, g, w)
		}
		if g, w := sums.Crc32(a)^sums.Crc32(b)^sums.Crc32(c), sums.Crc32(zero); g != w {
			t.Errorf("32 bits, % x and % x: %08x, not %08x", a, b, g, w)
		}
	}
}

// R3

// roomy is b with spare room behind its end, and the whole of that memory.
func roomy(b []byte) ([]byte, []byte) {
	whole := append(bytes.Clone(b), bytes.Repeat([]byte{0xA5}, 16)...)
	return whole[:len(b)], whole
}

func TestWhatIsHandedInStays(t *testing.T) {
	calls := map[string]func([]byte){
		"Crc16":  func(b []byte) { sums.Crc16(b) },
		"More16": func(b []byte) { sums.More16(1, b) },
		"Crc32":  func(b []byte) { sums.Crc32(b) },
		"More32": func(b []byte) { sums.More32(1, b) },
		"Seal16": func(b []byte) { sums.Seal16(b) },
		"Open16": func(b []byte) { sums.Open16(b) },
		"Seal32": func(b []byte) { sums.Seal32(b) },
		"Open32": func(b []byte) { sums.Open32(b) },
	}
	for name, call := range calls {
		for _, row := range rows(20) {
			for _, b := range [][]byte{row, sums.Seal16(row), sums.Seal32(row)} {
				in, whole := roomy(b)
				before := bytes.Clone(whole)
				call(in)
				if !bytes.Equal(whole, before) {
					t.Errorf("%s changed % x to % x", name, before, whole)
				}
			}
		}
	}
}

// fill writes over a list and all its spare room.
func fill(b []byte, v byte) {
	b = b[:cap(b)]
	for i := range b {
		b[i] = v
	}
}

func TestWhatIsHandedOutIsNew(t *testing.T) {
	for _, o := range openers() {
		for _, row := range rows(20) {
			in, whole := roomy(row)
			before := bytes.Clone(whole)
			one, two := o.seal(in), o.seal(in)
			sealed := bytes.Clone(two)
			fill(one, 0x3C)
			if !bytes.Equal(two, sealed) || !bytes.Equal(whole, before) {
				t.Errorf("Seal%s of % x hands out shared memory", o.name, row)
			}
			in, whole = roomy(sealed)
			before = bytes.Clone(whole)
			a, _ := o.open(in)
			b, _ := o.open(in)
			fill(a, 0x3C)
			if !bytes.Equal(b, row) || !bytes.Equal(whole, before) {
				t.Errorf("Open%s of % x hands out shared memory", o.name, sealed)
			}
		}
	}
}

// What was handed in is not kept: an answer stays when the argument is written over.
func TestWhatIsHandedInIsNotKept(t *testing.T) {
	for _, o := range openers() {
		in := []byte("abcdef")
		p := o.seal(in)
		fill(in, 0)
		if !bytes.Equal(p[:6], []byte("abcdef")) {
			t.Errorf("Seal%s: % x", o.name, p)
		}
		a, _ := o.open(p)
		fill(p, 0)
		if string(a) != "abcdef" {
			t.Errorf("Open%s: % x", o.name, a)
		}
	}
}
