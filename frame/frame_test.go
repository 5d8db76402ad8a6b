package frame_test

import (
	"bytes"
	"encoding/binary"
	"math/bits"
	"math/rand"
	"slices"
	"testing"

	"outstation/api"
	"outstation/frame"
)

// sum16 is the sum of a line's frames found another way: by division, the highest bit first.
func sum16(b []byte) uint16 {
	r := uint16(0xFFFF)
	for _, v := range b {
		r ^= uint16(bits.Reverse8(v)) << 8
		for range 8 {
			high := r >> 15
			r <<= 1
			if high == 1 {
				r ^= 0x8005
			}
		}
	}
	return bits.Reverse16(r)
}

// onLine is a frame on a line, of any unit and PDU, right or wrong.
func onLine(unit byte, pdu []byte) []byte {
	b := append([]byte{unit}, pdu...)
	return binary.LittleEndian.AppendUint16(b, sum16(b))
}

// onStream is a frame on a stream, of any PDU, right or wrong.
func onStream(f api.Tcp) []byte {
	b := binary.BigEndian.AppendUint16(nil, f.Id)
	b = append(b, 0, 0)
	b = binary.BigEndian.AppendUint16(b, uint16(1+len(f.Pdu)))
	return append(append(b, f.Unit), f.Pdu...)
}

// row is n bytes, alike in every run.
func row(n int) []byte {
	b := make([]byte, n)
	r := uint32(n + 1)
	for i := range b {
		r = r*1664525 + 1013904223
		b[i] = byte(r >> 24)
	}
	return b
}

// sizes are how many bytes the PDUs have that are tried: the ends and some between.
func sizes() []int { return []int{1, 2, 3, 5, 6, 127, 128, 252, 253} }

// units are those that are tried on a line: the ends and some between.
func units() []byte { return []byte{1, 2, 17, 127, 128, 246, 247} }

// frames are right frames on a stream: Ids, Units and sizes at their ends and between.
func frames() []api.Tcp {
	var out []api.Tcp
	for i, n := range sizes() {
		for j, id := range []uint16{0, 1, 0xFF, 0x100, 0x1234, 0xFFFF} {
			out = append(out, api.Tcp{Id: id, Unit: []byte{0, 1, 17, 247, 248, 255}[(i+j)%6], Pdu: row(n)})
		}
	}
	return append(out, api.Tcp{Pdu: []byte{0}}, api.Tcp{Id: 0xFFFF, Unit: 0xFF, Pdu: bytes.Repeat([]byte{0xFF}, 253)})
}

// few are right frames on a stream of few bytes, so that their streams may be cut everywhere.
func few() []api.Tcp {
	return []api.Tcp{
		{Id: 1, Unit: 17, Pdu: []byte{3, 0, 0x6B, 0, 3}},
		{Id: 0, Unit: 0, Pdu: []byte{0}},
		{Id: 0xFFFF, Unit: 255, Pdu: []byte{0xFF, 0xFF}},
		{Id: 0x0102, Unit: 248, Pdu: []byte{0, 1, 0, 0, 0, 2, 9, 9}}, // a PDU that is a frame itself
	}
}

// stream is frames one behind the other.
func stream(l []api.Tcp) []byte {
	var out []byte
	for _, f := range l {
		out = append(out, onStream(f)...)
	}
	return out
}

func same(a, b api.Tcp) bool {
	return a.Id == b.Id && a.Unit == b.Unit && bytes.Equal(a.Pdu, b.Pdu)
}

// rtu holds what Rtu answers against what it should.
func rtu(t *testing.T, unit byte, pdu, want []byte, errno api.Errno) {
	t.Helper()
	if b, e := frame.Rtu(unit, pdu); e != errno || !bytes.Equal(b, want) {
		t.Fatalf("Rtu of %d and % x: % x, %d, not % x, %d", unit, pdu, b, e, want, errno)
	}
}

// opens holds what OpenRtu answers against what it should.
func opens(t *testing.T, b []byte, unit byte, pdu []byte, errno api.Errno) {
	t.Helper()
	if u, p, e := frame.OpenRtu(b); e != errno || u != unit || !bytes.Equal(p, pdu) {
		t.Fatalf("OpenRtu of % x: %d, % x, %d, not %d, % x, %d", b, u, p, e, unit, pdu, errno)
	}
}

// refuses asks for an error, and for nothing beside it.
func refuses(t *testing.T, b []byte, errno api.Errno) {
	t.Helper()
	opens(t, b, 0, nil, errno)
}

// puts holds what Put answers against what it should.
func puts(t *testing.T, f api.Tcp, want []byte, errno api.Errno) {
	t.Helper()
	if b, e := frame.Put(f); e != errno || !bytes.Equal(b, want) {
		t.Fatalf("Put of %+v: % x, %d, not % x, %d", f, b, e, want, errno)
	}
}

// gets holds what Get answers against what it should.
func gets(t *testing.T, b []byte, want api.Tcp, n int, errno api.Errno) {
	t.Helper()
	if f, k, e := frame.Get(b); e != errno || k != n || !same(f, want) {
		t.Fatalf("Get of % x: %+v, %d, %d, not %+v, %d, %d", b, f, k, e, want, n, errno)
	}
}

// getsNone asks for an error, and for nothing beside it.
func getsNone(t *testing.T, b []byte, errno api.Errno) {
	t.Helper()
	gets(t, b, api.Tcp{}, 0, errno)
}

// splits holds what Split answers against what it should.
func splits(t *testing.T, b []byte, want []api.Tcp, n int, errno api.Errno) {
	t.Helper()
	if l, k, e := frame.Split(b); e != errno || k != n || !slices.EqualFunc(l, want, same) {
		t.Fatalf("Split of % x: %+v, %d, %d, not %+v, %d, %d", b, l, k, e, want, n, errno)
	}
}

// P5.1

func TestRtu(t *testing.T) {
	rtu(t, 1, []byte{3, 0, 0, 0, 10}, []byte("\x01\x03\x00\x00\x00\x0a\xc5\xcd"), api.OK)
	for _, u := range units() {
		for _, n := range sizes() {
			rtu(t, u, row(n), onLine(u, row(n)), api.OK)
		}
	}
	for u := 1; u <= 247; u++ {
		rtu(t, byte(u), []byte{3}, onLine(byte(u), []byte{3}), api.OK)
	}
	for v := range 256 { // any bytes are a PDU
		rtu(t, 9, []byte{byte(v)}, onLine(9, []byte{byte(v)}), api.OK)
	}
	if b, _ := frame.Rtu(247, row(253)); len(b) != 256 {
		t.Errorf("the longest frame has %d bytes", len(b))
	}
}

func TestRtuUnit(t *testing.T) {
	for _, u := range []byte{0, 248, 249, 254, 255} {
		for _, n := range []int{0, 1, 5, 253, 254, 1000} { // the unit is told ahead of the size
			rtu(t, u, row(n), nil, api.ErrUnit)
		}
	}
	rtu(t, 0, nil, nil, api.ErrUnit)
}

func TestRtuSize(t *testing.T) {
	for _, u := range units() {
		rtu(t, u, nil, nil, api.ErrShort)
		rtu(t, u, []byte{}, nil, api.ErrShort)
		for _, n := range []int{254, 255, 256, 257, 509, 512, 70000} {
			rtu(t, u, row(n), nil, api.ErrLong)
		}
	}
}

// P5.2

func TestOpenRtu(t *testing.T) {
	opens(t, []byte("\x01\x03\x00\x00\x00\x0a\xc5\xcd"), 1, []byte{3, 0, 0, 0, 10}, api.OK)
	for _, u := range units() {
		for _, n := range sizes() { // rows of 4 to 256 bytes
			opens(t, onLine(u, row(n)), u, row(n), api.OK)
		}
	}
	for u := 1; u <= 247; u++ {
		opens(t, onLine(byte(u), []byte{3}), byte(u), []byte{3}, api.OK)
	}
}

func TestOpenRtuShort(t *testing.T) {
	for n := range 4 {
		refuses(t, make([]byte, n), api.ErrShort)
		refuses(t, bytes.Repeat([]byte{0xFF}, n), api.ErrShort)
		refuses(t, onLine(1, []byte{3})[:n], api.ErrShort)
	}
	refuses(t, nil, api.ErrShort)
	refuses(t, onLine(1, nil), api.ErrShort) // a right sum of a right unit, and no PDU
	refuses(t, onLine(0, nil), api.ErrShort)
}

func TestOpenRtuLong(t *testing.T) {
	for _, n := range []int{254, 255, 256, 509, 70000} { // 254: a row of 257
		for _, u := range []byte{0, 1, 247, 248} { // the size is told ahead of the sum and the unit
			refuses(t, onLine(u, row(n)), api.ErrLong)
			refuses(t, append([]byte{u}, make([]byte, n+2)...), api.ErrLong)
		}
	}
}

func TestOpenRtuSum(t *testing.T) {
	for _, n := range sizes() {
		for _, u := range []byte{0, 1, 17, 247, 248, 255} { // the sum is told ahead of the unit
			b := onLine(u, row(n))
			for _, i := range []int{1, 2} { // either byte of it
				for bit := range 8 {
					c := bytes.Clone(b)
					c[len(c)-i] ^= 1 << bit
					refuses(t, c, api.ErrSum)
				}
			}
			body := len(b) - 2
			if b[body] != b[body+1] {
				refuses(t, append(bytes.Clone(b[:body]), b[body+1], b[body]), api.ErrSum) // the highest byte first
			}
			for i := range body {
				c := bytes.Clone(b)
				c[i] ^= 0x10
				refuses(t, c, api.ErrSum)
			}
		}
	}
	b := onLine(1, row(5))
	refuses(t, b[:len(b)-1], api.ErrSum)
	refuses(t, append(bytes.Clone(b), 7), api.ErrSum)
	refuses(t, make([]byte, 4), api.ErrSum)
	refuses(t, make([]byte, 256), api.ErrSum)
}

// Of all the ends that two bytes can be, one alone is the sum.
func TestOpenRtuEverySum(t *testing.T) {
	want := sum16([]byte{17, 3})
	for v := range 1 << 16 {
		b := []byte{17, 3, byte(v), byte(v >> 8)}
		if uint16(v) == want {
			opens(t, b, 17, []byte{3}, api.OK)
		} else {
			refuses(t, b, api.ErrSum)
		}
	}
}

func TestOpenRtuUnit(t *testing.T) {
	for _, u := range []byte{0, 248, 249, 254, 255} {
		for _, n := range sizes() {
			refuses(t, onLine(u, row(n)), api.ErrUnit)
		}
	}
}

// P5.3

func TestPut(t *testing.T) {
	puts(t, api.Tcp{Id: 1, Unit: 17, Pdu: []byte{3, 0, 0x6B, 0, 3}}, []byte("\x00\x01\x00\x00\x00\x06\x11\x03\x00\x6b\x00\x03"), api.OK)
	puts(t, api.Tcp{Id: 0x1234, Unit: 0xFF, Pdu: []byte{7}}, []byte("\x12\x34\x00\x00\x00\x02\xff\x07"), api.OK)
	for _, f := range frames() {
		puts(t, f, onStream(f), api.OK)
	}
	for v := range 256 {
		f := api.Tcp{Id: uint16(v)<<8 | uint16(255-v), Unit: byte(v), Pdu: []byte{byte(v)}}
		puts(t, f, onStream(f), api.OK)
	}
	if b, _ := frame.Put(api.Tcp{Pdu: row(253)}); len(b) != 260 || b[4] != 0 || b[5] != 254 {
		t.Errorf("the longest frame has %d bytes: % x", len(b), b)
	}
}

func TestPutSize(t *testing.T) {
	for _, u := range []byte{0, 1, 247, 248, 255} {
		for _, id := range []uint16{0, 1, 0xFFFF} {
			puts(t, api.Tcp{Id: id, Unit: u}, nil, api.ErrShort)
			puts(t, api.Tcp{Id: id, Unit: u, Pdu: []byte{}}, nil, api.ErrShort)
			for _, n := range []int{254, 255, 256, 257, 512, 65536, 65537} {
				puts(t, api.Tcp{Id: id, Unit: u, Pdu: row(n)}, nil, api.ErrLong)
			}
		}
	}
}

// P5.4

func TestGet(t *testing.T) {
	gets(t, []byte("\x00\x01\x00\x00\x00\x06\x11\x03\x00\x6b\x00\x03\xff"), api.Tcp{Id: 1, Unit: 17, Pdu: []byte{3, 0, 0x6B, 0, 3}}, 12, api.OK)
	gets(t, []byte("\x12\x34\x00\x00\x00\x02\xff\x07"), api.Tcp{Id: 0x1234, Unit: 0xFF, Pdu: []byte{7}}, 8, api.OK)
	for _, f := range frames() {
		gets(t, onStream(f), f, 7+len(f.Pdu), api.OK)
	}
	for v := range 256 {
		f := api.Tcp{Id: uint16(v)<<8 | uint16(255-v), Unit: byte(v), Pdu: []byte{byte(v)}}
		gets(t, onStream(f), f, 8, api.OK)
	}
}

func TestGetShort(t *testing.T) {
	getsNone(t, nil, api.ErrShort)
	for n := range 7 { // a wrong head is none as yet
		getsNone(t, make([]byte, n), api.ErrShort)
		getsNone(t, bytes.Repeat([]byte{0xFF}, n), api.ErrShort)
	}
	for _, f := range frames() {
		b := onStream(f)
		for n := range b {
			getsNone(t, b[:n], api.ErrShort)
		}
	}
}

// head is the beginning of a stream with such numbers, and n bytes behind its first seven.
func head(zero, says uint16, n int) []byte {
	b := binary.BigEndian.AppendUint16([]byte{0xAB, 0xCD}, zero)
	b = binary.BigEndian.AppendUint16(b, says)
	return append(append(b, 17), row(n)...)
}

func TestGetSays(t *testing.T) {
	for says := range 1 << 16 {
		for _, n := range []int{0, 1, 253, 254, 300} {
			b := head(0, uint16(says), n)
			switch {
			case says < 2 || says > 254: // however many bytes there are
				getsNone(t, b, api.ErrForm)
			case says > 1+n:
				getsNone(t, b, api.ErrShort)
			default:
				gets(t, b, api.Tcp{Id: 0xABCD, Unit: 17, Pdu: row(n)[:says-1]}, 6+says, api.OK)
			}
		}
	}
	for _, c := range []struct {
		says uint16
		want api.Errno
	}{{0, api.ErrForm}, {1, api.ErrForm}, {2, api.OK}, {254, api.OK}, {255, api.ErrForm}, {256, api.ErrForm}, {258, api.ErrForm}, {0x0200, api.ErrForm}, {0xFFFF, api.ErrForm}} {
		if _, _, e := frame.Get(head(0, c.says, 400)); e != c.want {
			t.Errorf("%d bytes said: %d, not %d", c.says, e, c.want)
		}
	}
}

func TestGetZero(t *testing.T) {
	for zero := 1; zero < 1<<16; zero++ {
		getsNone(t, head(uint16(zero), 6, 5), api.ErrForm)
	}
	for _, zero := range []uint16{1, 0x80, 0x100, 0x8000, 0xFFFF} {
		getsNone(t, head(zero, 6, 0), api.ErrForm) // told ahead of what is missing
		getsNone(t, head(zero, 254, 0), api.ErrForm)
		getsNone(t, head(zero, 0, 0), api.ErrForm)
		getsNone(t, head(zero, 6, 5)[:6], api.ErrShort)
	}
}

// P5.5

func TestSplit(t *testing.T) {
	f := api.Tcp{Id: 1, Unit: 17, Pdu: []byte{3, 0, 0x6B, 0, 3}}
	splits(t, append(stream([]api.Tcp{f, f}), onStream(f)[:5]...), []api.Tcp{f, f}, 24, api.OK)
	splits(t, nil, nil, 0, api.OK)
	splits(t, []byte{}, nil, 0, api.OK)
	for _, f := range frames() {
		splits(t, onStream(f), []api.Tcp{f}, 7+len(f.Pdu), api.OK)
	}
	for n := range few() {
		l := few()[:n+1]
		splits(t, stream(l), l, len(stream(l)), api.OK)
	}
	splits(t, stream(frames()), frames(), len(stream(frames())), api.OK)
	many := slices.Repeat(few(), 2000)
	splits(t, stream(many), many, len(stream(many)), api.OK)
}

// wrongHeads are rows that Get calls ErrForm.
func wrongHeads() [][]byte {
	var out [][]byte
	for _, n := range []int{0, 1, 300} {
		out = append(out, head(1, 6, n), head(0x0100, 6, n), head(0, 0, n), head(0, 1, n), head(0, 255, n), head(0, 0x0106, n))
	}
	return out
}

func TestSplitWrongHead(t *testing.T) {
	for _, wrong := range wrongHeads() {
		for n := range len(few()) + 1 {
			l := few()[:n]
			ahead := stream(l)
			b := append(bytes.Clone(ahead), wrong...)
			splits(t, b, l, len(ahead), api.ErrForm)
			splits(t, append(bytes.Clone(b), ahead...), l, len(ahead), api.ErrForm) // none is looked for behind it
			for k := range 7 {                                                      // what is not there as yet may come
				splits(t, b[:len(ahead)+k], l, len(ahead), api.OK)
			}
		}
	}
}

// P5.6

func TestLineBack(t *testing.T) {
	for u := 1; u <= 247; u++ {
		for _, n := range sizes() {
			b, e := frame.Rtu(byte(u), row(n))
			if e != api.OK {
				t.Fatal(u, n, e)
			}
			opens(t, b, byte(u), row(n), api.OK)
		}
	}
	for n := 1; n <= 253; n++ {
		b, _ := frame.Rtu(247, row(n))
		opens(t, b, 247, row(n), api.OK)
	}
}

func TestStreamBack(t *testing.T) {
	all := frames()
	for n := 1; n <= 253; n++ {
		all = append(all, api.Tcp{Id: uint16(n * 259), Unit: byte(n * 7), Pdu: row(n)})
	}
	behind := append(wrongHeads(), nil, []byte{0}, []byte{0xFF}, row(6), row(500), onStream(few()[1]))
	for _, f := range all {
		b, e := frame.Put(f)
		if e != api.OK {
			t.Fatal(f, e)
		}
		for _, more := range behind {
			gets(t, append(bytes.Clone(b), more...), f, len(b), api.OK)
		}
	}
}

func TestEveryIdBack(t *testing.T) {
	for id := range 1 << 16 {
		f := api.Tcp{Id: uint16(id), Unit: byte(id), Pdu: []byte{1, byte(id >> 8)}}
		b, _ := frame.Put(f)
		gets(t, b, f, 9, api.OK)
	}
}

// P5.7

// ahead are the frames of a list that are whole within the first n bytes of its stream, and how many bytes those have.
func ahead(l []api.Tcp, n int) ([]api.Tcp, int) {
	size := 0
	for i, f := range l {
		next := size + 7 + len(f.Pdu)
		if next > n {
			return l[:i], size
		}
		size = next
	}
	return l, size
}

// lists are lists of frames whose streams are cut.
func lists() [][]api.Tcp {
	long := []api.Tcp{few()[0], {Id: 5, Unit: 6, Pdu: row(253)}, few()[1], {Id: 7, Unit: 8, Pdu: row(1)}}
	return [][]api.Tcp{nil, few()[:1], few()[:2], few(), long, slices.Repeat(few()[1:2], 6)}
}

func TestCutAnywhere(t *testing.T) {
	for _, l := range lists() {
		b := stream(l)
		for n := range len(b) + 1 {
			want, size := ahead(l, n)
			splits(t, b[:n], want, size, api.OK)
		}
	}
}

// inPieces is a stream split at places, each piece with what the one ahead of it left.
func inPieces(b []byte, places ...int) ([]api.Tcp, int, api.Errno) {
	var out []api.Tcp
	done := 0
	var last api.Errno
	for _, to := range append(places, len(b)) {
		l, n, e := frame.Split(b[done:to])
		out, done, last = append(out, l...), done+n, e
	}
	return out, done, last
}

func TestTwoPieces(t *testing.T) {
	for _, l := range lists() {
		for _, more := range append(wrongHeads()[:6], nil, onStream(few()[0])[:5], onStream(few()[0])[:9]) {
			b := append(stream(l), more...)
			want, size, errno := frame.Split(b)
			if !slices.EqualFunc(want, l, same) || size != len(b)-len(more) {
				t.Fatalf("Split of % x: %+v, %d", b, want, size)
			}
			for n := range len(b) + 1 {
				if got, k, e := inPieces(b, n); e != errno || k != size || !slices.EqualFunc(got, want, same) {
					t.Fatalf("% x in pieces at %d: %+v, %d, %d, not %+v, %d, %d", b, n, got, k, e, want, size, errno)
				}
			}
		}
	}
}

func TestByteByByte(t *testing.T) {
	for _, l := range lists() {
		b := append(stream(l), wrongHeads()[0]...)
		var places []int
		for n := range b {
			places = append(places, n)
		}
		if got, k, e := inPieces(b, places...); e != api.ErrForm || k != len(stream(l)) || !slices.EqualFunc(got, l, same) {
			t.Errorf("% x byte by byte: %+v, %d, %d", b, got, k, e)
		}
	}
}

// R1 and R4

// said is what the chapter says of a row on a line.
func said(b []byte) (byte, []byte, api.Errno) {
	n := len(b)
	switch {
	case n < 4:
		return 0, nil, api.ErrShort
	case n > 256:
		return 0, nil, api.ErrLong
	case binary.LittleEndian.Uint16(b[n-2:]) != sum16(b[:n-2]):
		return 0, nil, api.ErrSum
	case b[0] == 0 || b[0] >= 248:
		return 0, nil, api.ErrUnit
	}
	return b[0], b[1 : n-2], api.OK
}

// saidOfStream is what the chapter says a stream begins with.
func saidOfStream(b []byte) (api.Tcp, int, api.Errno) {
	if len(b) < 7 {
		return api.Tcp{}, 0, api.ErrShort
	}
	says := int(binary.BigEndian.Uint16(b[4:]))
	switch {
	case b[2] != 0 || b[3] != 0 || says < 2 || says > 254:
		return api.Tcp{}, 0, api.ErrForm
	case len(b)-6 < says:
		return api.Tcp{}, 0, api.ErrShort
	}
	return api.Tcp{Id: binary.BigEndian.Uint16(b), Unit: b[6], Pdu: b[7 : 6+says]}, 6 + says, api.OK
}

// saidOfAll is what the chapter says of a whole stream.
func saidOfAll(b []byte) ([]api.Tcp, int, api.Errno) {
	var out []api.Tcp
	for size := 0; ; {
		f, n, e := saidOfStream(b[size:])
		if e == api.ErrShort {
			return out, size, api.OK
		}
		if e != api.OK {
			return out, size, e
		}
		out, size = append(out, f), size+n
	}
}

// spoilt are frames and streams, most of them with some bytes turned, cut off or put behind.
func spoilt(n int) [][]byte {
	r := rand.New(rand.NewSource(7))
	var out [][]byte
	for range n {
		var b []byte
		if r.Intn(2) == 0 {
			b = onLine(byte(r.Intn(256)), row(r.Intn(258)))
		} else {
			for range r.Intn(5) {
				b = append(b, onStream(api.Tcp{Id: uint16(r.Intn(3)), Unit: byte(r.Intn(256)), Pdu: row(r.Intn(12))})...)
			}
		}
		for range r.Intn(3) {
			if len(b) > 0 {
				b[r.Intn(len(b))] ^= 1 << r.Intn(8)
			}
		}
		if r.Intn(3) == 0 {
			b = b[:r.Intn(len(b)+1)]
		}
		out = append(out, append(b, row(r.Intn(3))...))
	}
	return out
}

func TestSpoilt(t *testing.T) {
	for _, b := range spoilt(20000) {
		for range 2 { // twice: each answer hangs on the bytes alone
			u, p, e := said(b)
			opens(t, b, u, p, e)
			f, n, e := saidOfStream(b)
			gets(t, b, f, n, e)
			l, n, e := saidOfAll(b)
			splits(t, b, l, n, e)
		}
	}
}

// R3

// roomy is b with spare room behind its end that is filled, and the whole of that memory.
func roomy(b []byte) ([]byte, []byte) {
	whole := append(bytes.Clone(b), bytes.Repeat([]byte{0xA5}, 600)...)
	return whole[:len(b)], whole
}

// fill writes over a list and all its spare room.
func fill(b []byte, v byte) {
	b = b[:cap(b)]
	for i := range b {
		b[i] = v
	}
}

// call is a call with bytes in, and all the lists of bytes that it answers.
type call struct {
	name string
	do   func([]byte) [][]byte
}

func calls() []call {
	return []call{
		{"Rtu", func(b []byte) [][]byte { p, _ := frame.Rtu(17, b); return [][]byte{p} }},
		{"OpenRtu", func(b []byte) [][]byte { _, p, _ := frame.OpenRtu(b); return [][]byte{p} }},
		{"Put", func(b []byte) [][]byte { p, _ := frame.Put(api.Tcp{Id: 3, Unit: 4, Pdu: b}); return [][]byte{p} }},
		{"Get", func(b []byte) [][]byte { f, _, _ := frame.Get(b); return [][]byte{f.Pdu} }},
		{"Split", func(b []byte) [][]byte {
			var out [][]byte
			l, _, _ := frame.Split(b)
			for _, f := range l {
				out = append(out, f.Pdu)
			}
			return out
		}},
	}
}

// inputs are rows of which some are right for each call.
func inputs() [][]byte {
	out := append(spoilt(500), nil, []byte{}, row(253), row(254), stream(few()), append(stream(few()), wrongHeads()[0]...))
	for _, n := range sizes() {
		out = append(out, row(n), onLine(9, row(n)), onLine(0, row(n)), onStream(api.Tcp{Pdu: row(n)}))
	}
	return out
}

// copies are lists in memory of their own.
func copies(l [][]byte) [][]byte {
	out := make([][]byte, len(l))
	for i, b := range l {
		out[i] = bytes.Clone(b)
	}
	return out
}

func TestMemory(t *testing.T) {
	equal := func(a, b [][]byte) bool { return slices.EqualFunc(a, b, bytes.Equal) }
	for _, c := range calls() {
		for _, b := range inputs() {
			in, whole := roomy(b)
			before := bytes.Clone(whole)
			one, two := c.do(in), c.do(in)
			if !bytes.Equal(whole, before) {
				t.Fatalf("%s changed what was handed in, % x", c.name, b)
			}
			want := copies(two)
			for i, p := range one {
				rest := copies(one[i+1:])
				fill(p, 0x3C)
				if !equal(one[i+1:], rest) {
					t.Fatalf("%s of % x: two lists of one answer share memory", c.name, b)
				}
			}
			if !equal(two, want) || !bytes.Equal(whole, before) {
				t.Fatalf("%s of % x hands out shared memory", c.name, b)
			}
			three := c.do(in)
			fill(whole, 0x3C)
			if !equal(two, want) || !equal(three, want) {
				t.Fatalf("%s of % x keeps what was handed in, or out", c.name, b)
			}
		}
	}
}

// The list of frames itself is new memory, too.
func TestMemoryOfFrames(t *testing.T) {
	b := stream(few())
	one, _, _ := frame.Split(b)
	two, _, _ := frame.Split(b)
	clear(one[:cap(one)])
	if !slices.EqualFunc(two, few(), same) {
		t.Errorf("Split hands out shared memory: %+v", two)
	}
	splits(t, b, few(), len(b), api.OK)
}
