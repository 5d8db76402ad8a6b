package chunk_test

import (
	"bytes"
	"encoding/binary"
	"hash/crc32"
	"math/bits"
	"math/rand"
	"slices"
	"testing"

	"outstation/api"
	"outstation/chunk"
)

const (
	short = api.ErrShort
	long  = api.ErrLong
	wrong = api.ErrSum
)

// laid is bytes that look like a chunk: any length of two bytes, any sum, and what stands behind them.
func laid(length int, sum uint32, behind []byte) []byte {
	b := binary.BigEndian.AppendUint16(nil, uint16(length))
	b = binary.BigEndian.AppendUint32(b, sum)
	return append(b, behind...)
}

// sumOf is the sum of a length and the bytes behind it, found by another's table.
func sumOf(length int, p []byte) uint32 {
	return crc32.ChecksumIEEE(append([]byte{byte(length >> 8), byte(length)}, p...))
}

// chunkOf is, by the chapter's words, a payload's chunk.
func chunkOf(p []byte) []byte { return laid(len(p), sumOf(len(p), p), p) }

// getOf is, by the chapter's words, the payload of the chunk that bytes begin with, and how many bytes that has.
func getOf(b []byte) ([]byte, int, api.Errno) {
	if len(b) < 6 {
		return nil, 0, short
	}
	length := int(binary.BigEndian.Uint16(b))
	switch behind := b[6:]; {
	case length > 1024:
		return nil, 0, long
	case len(behind) < length:
		return nil, 0, short
	case binary.BigEndian.Uint32(b[2:]) != sumOf(length, behind[:length]):
		return nil, 0, wrong
	default:
		return behind[:length], 6 + length, api.OK
	}
}

// scanOf is, by the chapter's words, the payloads of the chunks that bytes begin with, and how many bytes these have.
func scanOf(b []byte) ([][]byte, int) {
	p, n, errno := getOf(b)
	if errno != api.OK {
		return nil, 0
	}
	l, more := scanOf(b[n:])
	return append([][]byte{p}, l...), n + more
}

// row is n bytes, alike in every run, and others for each seed.
func row(n, seed int) []byte {
	b := make([]byte, n)
	rand.New(rand.NewSource(int64(seed)<<20 + int64(n))).Read(b)
	return b
}

// join is rows one behind the other.
func join(l ...[]byte) []byte { return bytes.Join(l, nil) }

// same is so many times the same byte.
func same(v byte, n int) []byte { return bytes.Repeat([]byte{v}, n) }

// sizes are how many bytes payloads have that are tried: the edges and some between.
func sizes() []int {
	return []int{0, 1, 2, 3, 5, 6, 7, 26, 127, 128, 254, 255, 256, 257, 511, 512, 1023, 1024}
}

// payloads are some of each of those sizes.
func payloads() [][]byte {
	var out [][]byte
	for _, n := range sizes() {
		out = append(out, row(n, 1), same(0, n), same(0xFF, n))
	}
	for _, p := range []string{"a", "bc", "\x00\x01", "\x01\x00\x00", "123456789"} {
		out = append(out, []byte(p), chunkOf([]byte(p)), chunkOf(chunkOf([]byte(p))))
	}
	return out
}

// lists are payloads that stand one behind the other.
func lists() [][][]byte {
	a, bc, none := []byte("a"), []byte("bc"), []byte{}
	return [][][]byte{
		{},
		{a}, {none}, {row(1024, 2)},
		{a, bc}, {a, none, bc}, {none, none, none}, {none, a, none}, {a, a, a, a},
		{row(255, 3), row(256, 3), row(257, 3)},
		{row(1024, 4), none, row(1024, 5), a, row(1023, 6)},
		{chunkOf(a), chunkOf(chunkOf(bc)), a},
		{same(0, 6), same(0, 12), same(0xFF, 9)},
	}
}

// file is the chunks of payloads, one behind the other.
func file(l [][]byte) []byte {
	var out []byte
	for _, p := range l {
		out = append(out, chunkOf(p)...)
	}
	return out
}

// puts holds what Put answers against what it should.
func puts(t *testing.T, p, want []byte, errno api.Errno) {
	t.Helper()
	if b, e := chunk.Put(p); e != errno || !bytes.Equal(b, want) {
		t.Fatalf("Put of %d bytes, % .20x: % .20x, %d, not % .20x, %d", len(p), p, b, e, want, errno)
	}
}

// gets holds what Get answers against what it should.
func gets(t *testing.T, b, p []byte, n int, errno api.Errno) {
	t.Helper()
	if q, k, e := chunk.Get(b); e != errno || k != n || !bytes.Equal(q, p) {
		t.Fatalf("Get of %d bytes, % .20x: % .20x, %d, %d, not % .20x, %d, %d", len(b), b, q, k, e, p, n, errno)
	}
}

// refuses asks for an error, and for nothing beside it, of the bytes and of what the second reading says of them.
func refuses(t *testing.T, b []byte, errno api.Errno) {
	t.Helper()
	gets(t, b, nil, 0, errno)
	if _, _, e := getOf(b); e != errno {
		t.Fatalf("the second reading of %d bytes, % .20x: %d, not %d", len(b), b, e, errno)
	}
}

// scans holds what Scan answers against what it should.
func scans(t *testing.T, b []byte, want [][]byte, n int) {
	t.Helper()
	if l, k := chunk.Scan(b); k != n || !slices.EqualFunc(l, want, bytes.Equal) {
		t.Fatalf("Scan of %d bytes, % .20x: %d payloads, % .20x, %d, not %d, % .20x, %d", len(b), b, len(l), l, k, len(want), want, n)
	}
}

// P13.1

func TestPutOfWords(t *testing.T) {
	for _, x := range []struct{ p, want string }{
		{"", "\x00\x00\x41\xD9\x12\xFF"},
		{"\x00", "\x00\x01\xE6\x5A\xE8\x53\x00"},
		{"a", "\x00\x01\xDC\xEF\xB9\x9D\x61"},
		{"bc", "\x00\x02\xA1\xB0\x32\xB5\x62\x63"},
		{"123456789", "\x00\x09\xBA\x6F\xB7\xAE123456789"},
	} {
		puts(t, []byte(x.p), []byte(x.want), api.OK)
	}
	puts(t, nil, []byte("\x00\x00\x41\xD9\x12\xFF"), api.OK)
}

// By the chapter's words, byte by byte: what each of them says stands where it says.
func TestPutByteByByte(t *testing.T) {
	for _, p := range payloads() {
		b, errno := chunk.Put(p)
		if errno != api.OK || len(b) != 2+4+len(p) {
			t.Fatalf("Put of %d bytes: %d bytes, %d", len(p), len(b), errno)
		}
		if high, low := len(p)/256, len(p)%256; int(b[0]) != high || int(b[1]) != low {
			t.Errorf("the chunk of %d bytes begins with % x", len(p), b[:2])
		}
		sum := sumOf(len(p), p)
		for i := range 4 {
			if want := byte(sum >> (24 - 8*i)); b[2+i] != want {
				t.Errorf("the sum of %d bytes is % x, not %08x", len(p), b[2:6], sum)
			}
		}
		if !bytes.Equal(b[6:], p) {
			t.Errorf("the chunk of %d bytes has another payload", len(p))
		}
	}
}

func TestPutOfEachSize(t *testing.T) {
	for n := range 1025 {
		for _, p := range [][]byte{row(n, 7), same(0, n), same(0xFF, n)} {
			puts(t, p, chunkOf(p), api.OK)
		}
	}
}

func TestPutOfEachByte(t *testing.T) {
	for v := range 256 {
		for _, p := range [][]byte{{byte(v)}, {9, byte(v)}, {byte(v), 9}} {
			puts(t, p, chunkOf(p), api.OK)
		}
	}
}

// Among them such whose length has another meaning in two bytes.
func TestPutOfTooManyBytes(t *testing.T) {
	for _, n := range []int{1025, 1026, 1030, 1031, 1279, 1280, 2047, 2048, 2049, 4096, 32767, 32768, 65535, 65536, 65537, 65536 + 1023, 65536 + 1024, 65536 + 1025, 1 << 17, 1 << 20, 1<<24 + 3} {
		puts(t, row(n, 8), nil, long)
		puts(t, make([]byte, n), nil, long)
	}
}

// P13.2

func TestGetOfWords(t *testing.T) {
	for _, x := range []struct {
		b, p  string
		n     int
		errno api.Errno
	}{
		{"", "", 0, short},
		{"\x00\x00\x00\x00\x00", "", 0, short},
		{"\x04\x01\x00\x00\x00\x00", "", 0, long},
		{"\x00\x01\x00\x00\x00\x00", "", 0, short},
		{"\x00\x01\x00\x00\x00\x00\x05", "", 0, wrong},
		{"\x00\x00\x00\x00\x00\x00", "", 0, wrong},
		{"\x00\x00\x41\xD9\x12\xFE", "", 0, wrong},
		{"\x00\x00\x41\xD9\x12\xFF", "", 6, api.OK},
		{"\x00\x00\x41\xD9\x12", "", 0, short},
		{"\x00\x00\xFF\x12\xD9\x41", "", 0, wrong},
		{"\x00\x01\xDC\xEF\xB9\x9D", "", 0, short},
		{"\x00\x01\xDC\xEF\xB9\x9Da", "a", 7, api.OK},
		{"\x00\x01\xDC\xEF\xB9\x9Db", "", 0, wrong},
		{"\x00\x01\xDC\xEF\xB9\x9Dab", "a", 7, api.OK},
		{"\x00\x02\xA1\xB0\x32\xB5bc", "bc", 8, api.OK},
		{"\x00\x02\xA1\xB0\x32\xB5cb", "", 0, wrong},
		{"\x02\x00\xA1\xB0\x32\xB5bc", "", 0, short},
	} {
		gets(t, []byte(x.b), []byte(x.p), x.n, x.errno)
	}
	gets(t, nil, nil, 0, short)
}

// All rows of up to six bytes that are made of a few.
func TestGetOfFewBytes(t *testing.T) {
	level := [][]byte{{}}
	for n := range 7 {
		var next [][]byte
		for _, b := range level {
			if n < 6 {
				refuses(t, b, short)
			} else {
				p, k, e := getOf(b)
				gets(t, b, p, k, e)
			}
			for _, v := range []byte{0, 1, 4, 5, 0xFF} {
				next = append(next, append(bytes.Clone(b), v))
			}
		}
		level = next
	}
}

// The beginnings of a chunk that has no more than its head.
func TestGetOfUpToSixBytes(t *testing.T) {
	b := chunkOf(nil)
	for n := range 6 {
		refuses(t, b[:n], short)
		refuses(t, bytes.Clone(b[:n]), short)
	}
	gets(t, b, nil, 6, api.OK)
}

// Each length that two bytes can say, with a sum that is right of as many bytes as it says, and with a wrong one.
func TestGetOfEachLength(t *testing.T) {
	all := row(65536, 9)
	for length := range 65536 {
		right := uint32(0)
		if length <= 1030 || length%997 == 0 || length > 65530 {
			right = sumOf(length, all[:length])
		}
		for _, behind := range []int{0, 1, length - 1, length, length + 1, 1023, 1024, 1025, 65536} {
			if behind < 0 || behind > len(all) || behind > 1025 && length > 1030 && length%997 > 0 && length <= 65530 {
				continue
			}
			b := laid(length, right, all[:behind])
			switch {
			case length > 1024:
				refuses(t, b, long)
			case behind < length:
				refuses(t, b, short)
			default:
				gets(t, b, all[:length], 6+length, api.OK)
			}
			if b[5]++; length <= 1024 && behind >= length {
				refuses(t, b, wrong)
			}
		}
	}
}

func TestGetOfAsManyAndFewerAndMore(t *testing.T) {
	for _, p := range payloads() {
		b := chunkOf(p)
		gets(t, b, p, len(b), api.OK)
		for behind := range len(p) {
			refuses(t, b[:6+behind], short)
		}
		for _, more := range []int{1, 2, 5, 6, 7, 1024, 4096} {
			gets(t, join(b, row(more, 10)), p, len(b), api.OK)
			gets(t, join(b, same(0, more)), p, len(b), api.OK)
		}
	}
}

func TestGetOfEachOtherByteOfTheSum(t *testing.T) {
	for _, p := range payloads() {
		for at := 2; at < 6; at++ {
			b := chunkOf(p)
			for range 255 {
				b[at]++
				refuses(t, b, wrong)
			}
			b[at]++
			gets(t, b, p, len(b), api.OK)
		}
	}
}

// Sums that somebody might have laid who read the chapter in another way.
func TestGetOfOtherSums(t *testing.T) {
	for _, p := range payloads() {
		sum := sumOf(len(p), p)
		length := []byte{byte(len(p) >> 8), byte(len(p))}
		for _, s := range []uint32{
			0, 0xFFFFFFFF, ^sum, sum + 1, sum - 1,
			bits.ReverseBytes32(sum), bits.Reverse32(sum), sum<<16 | sum>>16,
			crc32.ChecksumIEEE(p),
			crc32.ChecksumIEEE(length),
			crc32.ChecksumIEEE(join(p, length)),
			crc32.ChecksumIEEE(join([]byte{length[1], length[0]}, p)),
			crc32.ChecksumIEEE(laid(len(p), 0, p)),
			crc32.ChecksumIEEE(p) ^ crc32.ChecksumIEEE(length),
			crc32.Checksum(join(length, p), crc32.MakeTable(crc32.Castagnoli)),
		} {
			if s == sum { // as some are for a payload that reads the same both ways
				continue
			}
			refuses(t, laid(len(p), s, p), wrong)
		}
	}
}

// Each other length, ahead of the same sum and the same bytes.
func TestGetOfAlteredLengths(t *testing.T) {
	for _, p := range payloads() {
		sum := sumOf(len(p), p)
		all := join(p, row(1030, 11))
		for length := range 1100 {
			switch {
			case length == len(p):
				gets(t, laid(length, sum, all), p, 6+len(p), api.OK)
			case length > 1024:
				refuses(t, laid(length, sum, all), long)
			default:
				refuses(t, laid(length, sum, all), wrong)
			}
		}
	}
}

func TestGetOfAlteredPayloads(t *testing.T) {
	for _, p := range payloads() {
		b := chunkOf(p)
		for i := range p {
			for _, v := range []byte{1, 0x80, 0xFF, byte(i) | 2} {
				b[6+i] ^= v
				refuses(t, b, wrong)
				b[6+i] ^= v
			}
		}
		for i := range len(p) - 1 { // two that stand next to each other change their places
			if p[i] != p[i+1] {
				b[6+i], b[7+i] = b[7+i], b[6+i]
				refuses(t, b, wrong)
				b[6+i], b[7+i] = b[7+i], b[6+i]
			}
		}
	}
}

func TestEachErrorOfGetAlone(t *testing.T) {
	all := row(65536, 12)
	for n := range 6 { // fewer than six bytes, of a chunk
		refuses(t, chunkOf(all[:9])[:n], short)
	}
	for _, length := range []int{1025, 1026, 2048, 65535} { // as many bytes as they say, with their sum
		refuses(t, chunkOf(all[:length]), long)
	}
	for _, length := range []int{1, 2, 255, 256, 257, 1023, 1024} {
		for _, behind := range []int{0, length / 2, length - 1} { // fewer, with the sum of all, of those that are there, and of them and noughts
			refuses(t, laid(length, sumOf(length, all[:length]), all[:behind]), short)
			refuses(t, laid(length, sumOf(length, all[:behind]), all[:behind]), short)
			refuses(t, laid(length, sumOf(length, join(all[:behind], make([]byte, length-behind))), all[:behind]), short)
		}
		refuses(t, laid(length, sumOf(length, all[:length])^1, all[:length]), wrong)
	}
	refuses(t, laid(0, sumOf(0, nil)^1, nil), wrong)
}

func TestTheFirstErrorOfGetIsTold(t *testing.T) {
	all := row(65536, 13)
	for _, length := range []int{1025, 1026, 2048, 65535} {
		for n := range 6 { // fewer than six bytes; they say too many
			refuses(t, laid(length, 0, nil)[:n], short)
		}
		for _, behind := range []int{0, 1, 1024, length - 1} { // they say too many; there are fewer
			refuses(t, laid(length, sumOf(length, all[:behind]), all[:behind]), long)
			refuses(t, laid(length, sumOf(length, all[:length]), all[:behind]), long)
		}
		for _, behind := range []int{length, length + 1} { // they say too many; the sum is another one
			refuses(t, laid(length, sumOf(length, all[:length])^1, all[:behind]), long)
		}
	}
	for _, length := range []int{1, 2, 255, 256, 257, 1023, 1024} {
		for _, behind := range []int{0, length / 2, length - 1} { // there are fewer; the sum is another one
			refuses(t, laid(length, 0, all[:behind]), short)
			refuses(t, laid(length, sumOf(length, all[:length])^1, all[:behind]), short)
		}
	}
}

// P13.3

func TestScanOfWords(t *testing.T) {
	a, bc := chunkOf([]byte("a")), chunkOf([]byte("bc"))
	more := chunkOf([]byte("more"))
	all := join(a, bc, more[:len(more)/2])
	l, n := chunk.Scan(all)
	if len(l) != 2 || string(l[0]) != "a" || string(l[1]) != "bc" || n != 15 {
		t.Errorf("Scan of the chunks of a, bc and half of one more: %q, %d", l, n)
	}
}

func TestScanOfNoBytes(t *testing.T) {
	scans(t, nil, nil, 0)
	scans(t, []byte{}, nil, 0)
}

func TestScanOfChunks(t *testing.T) {
	for _, p := range payloads() {
		scans(t, chunkOf(p), [][]byte{p}, 6+len(p))
	}
	for _, l := range lists() {
		scans(t, file(l), l, len(file(l)))
	}
	scans(t, file(payloads()), payloads(), len(file(payloads())))
}

func TestScanOfNoPayloads(t *testing.T) {
	for n := range 200 {
		l := make([][]byte, n)
		scans(t, file(l), l, 6*n)
		scans(t, join(file(l), same(0, 6)), l, 6*n)
	}
}

func TestScanOfManyChunks(t *testing.T) {
	var l [][]byte
	for n := range 3000 {
		l = append(l, row(n%41, n))
	}
	scans(t, file(l), l, len(file(l)))
}

func TestScanOfNoChunk(t *testing.T) {
	for n := 1; n < 40; n++ {
		scans(t, same(0, n), nil, 0)
		scans(t, same(0xFF, n), nil, 0)
		scans(t, row(n, 14), nil, 0)
		scans(t, join(same(0, n), chunkOf(nil)), nil, 0)
	}
	scans(t, make([]byte, 1<<16), nil, 0)
	scans(t, join([]byte{9}, chunkOf([]byte("a"))), nil, 0)
	scans(t, chunkOf([]byte("abc"))[1:], nil, 0)
}

// fault is what may be wrong with a chunk, and the error of Get of what stands from it on.
type fault struct {
	name  string
	b     []byte
	errno api.Errno
}

// faults are chunks with each kind of fault, as they are told with a chunk or more behind them or none. A fault that hangs on what stands behind tells 0.
func faults() []fault {
	p := []byte("fault")
	b := chunkOf(p)
	turned := func(at int) []byte {
		c := bytes.Clone(b)
		c[at] ^= 1
		return c
	}
	big := row(1025, 15)
	return []fault{
		{"another length", laid(4, sumOf(5, p), p), wrong},
		{"no length", laid(0, sumOf(5, p), p), wrong},
		{"a sum of another length", laid(5, sumOf(4, p), p), wrong},
		{"the first byte of the sum", turned(2), wrong},
		{"the last byte of the sum", turned(5), wrong},
		{"the first byte of the payload", turned(6), wrong},
		{"the last byte of the payload", turned(10), wrong},
		{"the sum of another one, of no payload", laid(0, sumOf(1, p[:1]), nil), wrong},
		{"noughts", same(0, 6), wrong},
		{"more than 1024, with their sum", chunkOf(big), long},
		{"more than 1024, with another sum", laid(1025, 0, big), long},
		{"more than 1024, all bits", same(0xFF, 6), long},
		{"more than 1024, none of them there", laid(0x500, 0, nil), long},
		{"more than there are", laid(1024, sumOf(5, p), p), 0},
		{"a byte is missing in the payload", slices.Delete(bytes.Clone(b), 7, 8), 0},
		{"a byte is missing in the head", slices.Delete(bytes.Clone(b), 2, 3), 0},
		{"the last byte is missing", b[:10], 0},
		{"the head alone", b[:6], 0},
		{"one byte", b[:1], 0},
		{"the first byte is missing", b[1:], 0},
		{"a byte stands ahead", join([]byte{0}, b), 0},
	}
}

func TestScanOfFaults(t *testing.T) {
	ahead := [][]byte{[]byte("a"), {}, []byte("bcd"), row(300, 16)}
	behind := [][]byte{nil, chunkOf([]byte("x")), file(lists()[4]), file(lists()[6]), same(0, 12), {1}}
	for _, f := range faults() {
		for k := range len(ahead) + 1 { // so many right ones stand ahead: the fault is in the first of all, or in another one
			right := file(ahead[:k])
			for _, rest := range behind {
				b := join(right, f.b, rest)
				if _, _, e := getOf(b[len(right):]); e == api.OK || f.errno != 0 && e != f.errno {
					t.Fatalf("%s: the second reading tells %d", f.name, e)
				}
				scans(t, b, ahead[:k], len(right))
			}
		}
	}
}

// A chunk that begins amid another one is none of the file's.
func TestScanDoesNotLookOn(t *testing.T) {
	inner := chunkOf([]byte("inner"))
	outer := chunkOf(inner)
	scans(t, outer, [][]byte{inner}, len(outer))
	for at := range 6 { // all of it is there, but its head is spoilt: what it holds is not told in its place
		b := bytes.Clone(outer)
		b[at] ^= 0x10
		scans(t, b, nil, 0)
	}
	scans(t, outer[6:], [][]byte{[]byte("inner")}, len(inner))
}

// P13.2 and P13.3, of rows that are spoilt by some means: each answer is what the second reading says, each time.

// spoilt are files, most of them with some bytes turned, put in, left out, cut off or put behind.
func spoilt(n int) [][]byte {
	r := rand.New(rand.NewSource(17))
	var out [][]byte
	for range n {
		var b []byte
		for range r.Intn(5) {
			b = append(b, chunkOf(row(r.Intn(12), r.Intn(9)))...)
		}
		for range r.Intn(3) {
			if len(b) == 0 {
				break
			}
			at := r.Intn(len(b))
			switch r.Intn(4) {
			case 0:
				b[at] ^= 1 << r.Intn(8)
			case 1:
				b = slices.Delete(b, at, at+1)
			case 2:
				b = slices.Insert(b, at, byte(r.Intn(3)))
			case 3:
				b = b[:at]
			}
		}
		out = append(out, append(b, row(r.Intn(3), 1)...))
	}
	return out
}

func TestSpoilt(t *testing.T) {
	for _, b := range spoilt(20000) {
		for range 2 { // twice: each answer hangs on the bytes alone
			p, n, e := getOf(b)
			gets(t, b, p, n, e)
			l, n := scanOf(b)
			scans(t, b, l, n)
		}
	}
}

// P13.4

// made is what Put answers.
func made(t *testing.T, p []byte) []byte {
	t.Helper()
	b, errno := chunk.Put(p)
	if errno != api.OK {
		t.Fatalf("Put of %d bytes: %d", len(p), errno)
	}
	return b
}

func TestGetOfPutIsThePayload(t *testing.T) {
	behind := [][]byte{nil, {0}, {0xFF}, same(0, 7), same(0xFF, 7), row(1, 18), row(2000, 18), []byte("abc")}
	for _, l := range lists() {
		behind = append(behind, file(l))
	}
	for n := range 1025 {
		p := row(n, 19)
		b := made(t, p)
		for _, rest := range [][]byte{nil, {0}, row(9, n), b} {
			gets(t, join(b, rest), p, 6+n, api.OK)
		}
	}
	for _, p := range payloads() {
		b := made(t, p)
		for _, rest := range behind {
			gets(t, join(b, rest), p, 6+len(p), api.OK)
		}
		for n := range b { // a beginning of it itself, and its end
			gets(t, join(b, b[:n]), p, 6+len(p), api.OK)
			gets(t, join(b, b[n:]), p, 6+len(p), api.OK)
		}
	}
}

func TestScanOfPutsIsTheirPayloads(t *testing.T) {
	r := rand.New(rand.NewSource(20))
	tried := lists()
	for range 300 {
		var l [][]byte
		for range r.Intn(20) {
			l = append(l, row([]int{0, 1, r.Intn(30), r.Intn(1025), 1024}[r.Intn(5)], r.Intn(99)))
		}
		tried = append(tried, l)
	}
	for _, l := range tried {
		var b []byte
		for _, p := range l {
			b = append(b, made(t, p)...)
		}
		scans(t, b, l, len(b))
	}
}

// P13.5

// whole is how many of the payloads' chunks are whole in the first n bytes of their file, and how many bytes these have.
func whole(l [][]byte, n int) (int, int) {
	end := 0
	for i, p := range l {
		if end+6+len(p) > n {
			return i, end
		}
		end += 6 + len(p)
	}
	return len(l), end
}

func TestCutAnywhere(t *testing.T) {
	for _, l := range lists() {
		b := file(l)
		for cut := range len(b) + 1 {
			k, end := whole(l, cut)
			scans(t, b[:cut], l[:k], end)
			scans(t, bytes.Clone(b[:cut]), l[:k], end)
		}
	}
}

// What Scan tells of a file that was cut off can be gone on with: behind as many bytes as it tells, the next chunk is found.
func TestGoOnBehindACut(t *testing.T) {
	next := []byte("next")
	for _, l := range lists() {
		b := file(l)
		for cut := 0; cut <= len(b); cut += 1 + len(b)/300 {
			k, end := whole(l, cut)
			_, n := chunk.Scan(b[:cut])
			scans(t, join(b[:n], chunkOf(next)), append(slices.Clone(l[:k]), next), end+10)
		}
	}
}

func TestNoChunkIsTheBeginningOfAnother(t *testing.T) {
	for _, p := range payloads() {
		b := made(t, p)
		for n := range b {
			refuses(t, b[:n], short)
			scans(t, b[:n], nil, 0)
		}
	}
	var all [][]byte
	for _, p := range payloads() {
		all = append(all, made(t, p))
	}
	for _, a := range all {
		for _, b := range all {
			if len(a) < len(b) && bytes.HasPrefix(b, a) {
				t.Errorf("% x is the beginning of % .20x", a, b)
			}
		}
	}
}

// P13.6

// turn turns the bits of a pattern in b from a bit on, counted byte by byte, in each from the lowest on.
func turn(b []byte, from int, pattern uint32) {
	for i := range 32 {
		if pattern>>i&1 == 1 {
			b[(from+i)/8] ^= 1 << ((from + i) % 8)
		}
	}
}

// turned asks that Get tells of the turned bits, and Scan stops there. Behind the chunk others stand or none, which is one to it.
func turned(t *testing.T, b []byte, size, from int, pattern uint32) {
	t.Helper()
	turn(b, from, pattern)
	if p, n, e := chunk.Get(b); e != wrong || n != 0 || len(p) > 0 {
		t.Fatalf("Get of a chunk of %d bytes, turned by %08x from bit %d on: %d, %d, %d", size, pattern, from, len(p), n, e)
	}
	turn(b, from, pattern)
}

// patterns are bits within 32 side by side that are at most so wide: one, two and three of them, runs, all that are narrow, and some others.
func patterns(wide int) []uint32 {
	var out []uint32
	for i := range 32 {
		out = append(out, 1<<i|1, 1<<(i+1)-1)
		for k := range i {
			out = append(out, 1<<i|1<<k|1)
		}
	}
	for v := range uint32(128) {
		out = append(out, v<<1|1)
	}
	// The sum's own number, which is the shape that comes nearest to being unseen.
	out = append(out, 0xEDB88320, 0xDB710641, 0x04C11DB7, 0x82608EDB)
	r := rand.New(rand.NewSource(21))
	for range 200 {
		out = append(out, r.Uint32()|1)
	}
	return slices.DeleteFunc(out, func(v uint32) bool { return v == 0 || bits.Len32(v) > wide })
}

// turnAll tries patterns at every so many places between two bits.
func turnAll(t *testing.T, b []byte, size, first, end, step int, patterns func(wide int) []uint32) {
	t.Helper()
	for from := first; from < end; from += step {
		for _, v := range patterns(end - from) {
			turned(t, b, size, from, v)
		}
	}
}

func TestTurnedSum(t *testing.T) {
	for _, n := range []int{0, 1, 2, 9, 255, 256} {
		b := join(chunkOf(row(n, 22)), chunkOf([]byte("behind")))
		turnAll(t, b, 6+n, 16, 48, 1, patterns)
	}
}

func TestTurnedPayload(t *testing.T) {
	for _, n := range []int{1, 2, 3, 4, 5, 9, 14} {
		for _, p := range [][]byte{row(n, 23), same(0, n), same(0xFF, n)} {
			turnAll(t, chunkOf(p), 6+n, 48, 48+8*n, 1, patterns)
			turnAll(t, join(chunkOf(p), chunkOf(p)), 6+n, 48, 48+8*n, 5, patterns)
		}
	}
}

// In payloads of many bytes each bit alone, and all 32 side by side, at each place; and some other patterns at some.
func TestTurnedLongPayload(t *testing.T) {
	few := func(wide int) []uint32 { return []uint32{1, uint32(uint64(1)<<min(wide, 32) - 1)} }
	some := func(wide int) []uint32 {
		l := patterns(wide)
		return []uint32{l[len(l)/2], l[len(l)-1]}
	}
	for _, n := range []int{255, 256, 1023, 1024} {
		b := chunkOf(row(n, 24))
		turnAll(t, b, 6+n, 16, 48, 1, few)
		turnAll(t, b, 6+n, 48, 48+8*n, 1, few)
		turnAll(t, b, 6+n, 48, 48+8*n, 67, some)
	}
}

// Amid others, a chunk of which bits were turned ends what Scan tells.
func TestScanOfTurned(t *testing.T) {
	l := [][]byte{[]byte("ahead"), []byte("turned"), []byte("behind")}
	b := file(l)
	start := len(chunkOf(l[0]))
	for from := 8*start + 16; from < 8*(start+12); from++ {
		turn(b, from, 1)
		scans(t, b, l[:1], start)
		turn(b, from, 1)
	}
	scans(t, b, l, len(b))
}

// R3

// roomy is b with spare room behind its end that is filled, and the whole of that memory.
func roomy(b []byte) ([]byte, []byte) {
	all := join(b, same(0xA5, 1100))
	return all[:len(b)], all
}

// fill writes over a list and all its spare room.
func fill(b []byte, v byte) {
	b = b[:cap(b)]
	for i := range b {
		b[i] = v
	}
}

// copies are lists in memory of their own.
func copies(l [][]byte) [][]byte {
	out := make([][]byte, len(l))
	for i, b := range l {
		out[i] = bytes.Clone(b)
	}
	return out
}

// call is a call with bytes in, and all the lists of bytes that it answers.
type call struct {
	name string
	do   func([]byte) [][]byte
}

func calls() []call {
	return []call{
		{"Put", func(b []byte) [][]byte { c, _ := chunk.Put(b); return [][]byte{c} }},
		{"Get", func(b []byte) [][]byte { p, _, _ := chunk.Get(b); return [][]byte{p} }},
		{"Scan", func(b []byte) [][]byte { l, _ := chunk.Scan(b); return l }},
	}
}

// inputs are rows of which some are right for each call.
func inputs() [][]byte {
	out := append(spoilt(300), nil, []byte{}, row(1024, 25), row(1025, 25))
	for _, p := range payloads() {
		out = append(out, p, chunkOf(p), join(chunkOf(p), chunkOf(p)))
	}
	for _, l := range lists() {
		out = append(out, file(l))
	}
	return out
}

func TestMemory(t *testing.T) {
	equal := func(a, b [][]byte) bool { return slices.EqualFunc(a, b, bytes.Equal) }
	for _, c := range calls() {
		for _, b := range inputs() {
			in, all := roomy(b)
			before := bytes.Clone(all)
			one, two := c.do(in), c.do(in)
			if !bytes.Equal(all, before) {
				t.Fatalf("%s changed what was handed in, % .20x", c.name, b)
			}
			want := copies(two)
			for i, p := range one {
				rest := copies(one[i+1:])
				fill(p, 0x3C)
				if !equal(one[i+1:], rest) {
					t.Fatalf("%s of % .20x: two lists of one answer share memory", c.name, b)
				}
			}
			if !equal(two, want) || !bytes.Equal(all, before) {
				t.Fatalf("%s of % .20x hands out shared memory", c.name, b)
			}
			three := c.do(in)
			fill(all, 0x3C)
			if !equal(two, want) || !equal(three, want) {
				t.Fatalf("%s of % .20x keeps what was handed in, or out", c.name, b)
			}
		}
	}
}

// The list of payloads itself is new memory, too.
func TestMemoryOfScan(t *testing.T) {
	for _, l := range lists() {
		b := file(l)
		one, _ := chunk.Scan(b)
		two, _ := chunk.Scan(b)
		clear(one[:cap(one)])
		if !slices.EqualFunc(two, l, bytes.Equal) {
			t.Errorf("Scan hands out shared memory: % .20x", two)
		}
		scans(t, b, l, len(b))
	}
}

// What stands in the spare room behind the end of b is none of its bytes, even where it is what is missing.
func TestTheSpareRoomIsNotRead(t *testing.T) {
	for _, p := range payloads() {
		b := chunkOf(p)
		for n := range b {
			refuses(t, b[:n], short)
			scans(t, b[:n], nil, 0)
		}
	}
}

// Nor is there more of it for that.
func TestTheSpareRoomIsNotCounted(t *testing.T) {
	for _, p := range append(payloads(), row(1023, 26), row(1024, 26)) {
		in, _ := roomy(p)
		puts(t, in, chunkOf(p), api.OK)
		b, _ := roomy(chunkOf(p))
		gets(t, b, p, 6+len(p), api.OK)
		scans(t, b, [][]byte{p}, 6+len(p))
	}
	all := row(2000, 27)
	for n := range 1025 {
		puts(t, all[:n], chunkOf(all[:n]), api.OK)
	}
}
