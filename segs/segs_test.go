package segs_test

import (
	"fmt"
	"maps"
	"slices"
	"strings"
	"testing"

	"outstation/api"
	"outstation/device"
)

const room = 1 << 16

// opened is a device with files, and the log that it holds.
func opened(t *testing.T, room int, files map[string]string) *pair {
	t.Helper()
	p := newPair(t, room, files)
	if errno := p.open(); errno != 0 {
		t.Fatalf("Open: %d, behind %v", errno, p.script)
	}
	p.look()
	return p
}

// fresh is a new log on a device without files.
func fresh(t *testing.T) *pair {
	t.Helper()
	return opened(t, room, nil)
}

// puts appends a payload that must get a number.
func (p *pair) puts(b string, want int) {
	p.t.Helper()
	if n, errno := p.append(b); n != want || errno != 0 {
		p.t.Fatalf("Append: %d, %d, not %d, behind %v", n, errno, want, p.script)
	}
}

// refuses holds an Append that must be refused, and must have changed nothing.
func (p *pair) refuses(b string, want api.Errno) {
	p.t.Helper()
	p.arm(most)
	if n, errno := p.append(b); n != 0 || errno != want {
		p.t.Fatalf("Append: %d, %d, not %d, behind %v", n, errno, want, p.script)
	}
	p.did()
	p.look()
}

// answers holds an answer against one that is told outright.
func (p *pair) answers(got, want api.Errno) {
	p.t.Helper()
	if got != want {
		p.t.Fatalf("%d, not %d, behind %v", got, want, p.script)
	}
}

// has holds the names of all files against words.
func (p *pair) has(names ...string) {
	p.t.Helper()
	if got := p.d.Names(); !slices.Equal(got, names) {
		p.t.Fatalf("files %q, not %q, behind %v", got, names, p.script)
	}
}

// told holds a payload against one that is told outright.
func (p *pair) told(n int, want string) {
	p.t.Helper()
	if b, errno := p.l.Get(n); string(b) != want || errno != 0 {
		p.t.Fatalf("Get %d: %.40x, %d, behind %v", n, b, errno, p.script)
	}
}

// file holds a file's bytes against what is told outright.
func (p *pair) file(name, want string) {
	p.t.Helper()
	if b, errno := p.d.Read(name); string(b) != want || errno != 0 {
		p.t.Fatalf("%s: %.40x, %d, not %.40x, behind %v", name, b, errno, want, p.script)
	}
}

// three is files of three segments, from N 5 and number 10 on, with 2, 1 and 2 payloads.
func three() map[string]string {
	return map[string]string{
		"head":  headOf(5, 10),
		"log-5": chunks("first", row(1100-90, 1)),
		"log-6": chunks(row(1018, 2)),
		"log-7": chunks("", "last"),
	}
}

// and is files, and others, or with other bytes.
func and(files map[string]string, more ...string) map[string]string {
	out := maps.Clone(files)
	for i := 0; i < len(more); i += 2 {
		out[more[i]] = more[i+1]
	}
	return out
}

// P14.1

func TestOpenOfNoFiles(t *testing.T) {
	for _, room := range []int{0, 1, 6, room} {
		p := newPair(t, room, nil)
		p.arm(0)
		p.answers(p.open(), api.OK)
		p.is(0, 0, 0, 0)
		p.look()
		p.did()
		p.has()
	}
}

func TestOpenOfHeads(t *testing.T) {
	for _, x := range []struct {
		n, first uint64
	}{{1, 0}, {1, 1}, {2, 0}, {7, 5}, {255, 256}, {1 << 32, 1 << 32}, {1, maxSeq - 1}, {1, maxSeq}, {lastN - 1, 3}, {lastN, 0}, {lastN, maxSeq}} {
		files := map[string]string{"head": headOf(x.n, x.first)}
		p := newPair(t, room, files)
		p.arm(0)
		p.answers(p.open(), api.OK)
		p.is(int(x.first), int(x.first), int(x.first), 0)
		p.look()
		p.has("head")

		name := fileOf(int(x.n))
		p = opened(t, room, and(files, name, chunks("a", "b")))
		p.is(int(x.first), int(x.first)+2, int(x.first)+2, 1)
		p.told(int(x.first), "a")
		p.told(int(x.first)+1, "b")
		p.has("head", name)
	}
}

// noHeads is bytes that are no head, by what is wrong with them.
func noHeads() map[string]string {
	right := headOf(3, 4)
	out := map[string]string{
		"an N of 0":                  headOf(0, 4),
		"an N too great":             headOf(lastN+1, 4),
		"an N of 13 digits":          headOf(1<<43, 4),
		"an N of 2^63":               headOf(1<<63, 4),
		"an N of 2^63 and one":       headOf(1<<63+1, 4),
		"an N of 2^64 less one":      headOf(1<<64-1, 4),
		"a number too great":         headOf(3, maxSeq+1),
		"a number of 2^62":           headOf(3, 1<<62),
		"a number of 2^63":           headOf(3, 1<<63),
		"a number of 2^64 less one":  headOf(3, 1<<64-1),
		"both too great":             headOf(lastN+1, maxSeq+1),
		"the lowest byte first":      chunkOf("\x03\x00\x00\x00\x00\x00\x00\x00\x04\x00\x00\x00\x00\x00\x00\x00"),
		"no chunk":                   numbers(3, 4),
		"no payload":                 chunkOf(""),
		"one number":                 chunkOf(numbers(3, 4)[:8]),
		"15 bytes":                   chunkOf(numbers(3, 4)[:15]),
		"17 bytes":                   chunkOf(numbers(3, 4) + "\x00"),
		"17 bytes, a nought ahead":   chunkOf("\x00" + numbers(3, 4)),
		"three numbers":              chunkOf(numbers(3, 4) + numbers(5, 6)[:8]),
		"two numbers of four bytes":  chunkOf("\x00\x00\x00\x03\x00\x00\x00\x04"),
		"two chunks":                 right + right,
		"two chunks, one number in":  chunkOf(numbers(3, 4)[:8]) + chunkOf(numbers(3, 4)[8:]),
		"an empty chunk behind":      right + chunkOf(""),
		"an empty chunk ahead":       chunkOf("") + right,
		"a byte behind":              right + "\x00",
		"many bytes behind":          right + row(2000, 1),
		"a byte ahead":               "\x00" + right,
		"much, but no chunk":         row(1000, 2),
		"1024 bytes":                 chunkOf(numbers(3, 4) + row(1008, 3)),
		"a length of more than 1024": "\x04\x10" + right[2:],
	}
	for i := range right {
		out[fmt.Sprint("only ", i, " bytes")] = right[:i]
		for bit := range 8 {
			out[fmt.Sprint("bit ", bit, " of byte ", i, " turned")] = right[:i] + string([]byte{right[i] ^ 1<<bit}) + right[i+1:]
		}
	}
	return out
}

func TestOpenOfNoHeads(t *testing.T) {
	for what, b := range noHeads() {
		files := and(three(), "head", b, "log-3", chunks("x")+"left", "log-9", "y", "another", "z")
		p := newPair(t, room, files)
		p.arm(0)
		if errno := p.open(); errno != api.ErrHead {
			t.Fatalf("%s: %d", what, errno)
		}
		p.look()
		p.did()
		p.has(slices.Sorted(maps.Keys(files))...)
	}
}

// What stands ahead of ErrHead is done, and what stands behind it is not.
func TestOpenOfNoHeadRemovesTheNewOne(t *testing.T) {
	files := and(three(), "head", "none", "log-9", "y")
	for _, b := range []string{"", "x", headOf(5, 10)} {
		p := newPair(t, room, and(files, "head.new", b))
		p.arm(1)
		p.answers(p.open(), api.ErrHead)
		p.look()
		p.has("head", "log-5", "log-6", "log-7", "log-9")
		p.did("remove head.new")

		p = newPair(t, room, and(files, "head.new", b))
		p.arm(0)
		p.answers(p.open(), api.ErrDown)
		p.look()
		p.did()
		p.answers(p.open(), api.ErrDown)
	}
}

func TestOpenRemovesTheNewHead(t *testing.T) {
	for _, b := range []string{"", "x", headOf(6, 12), headOf(5, 10), row(3000, 3)} {
		p := newPair(t, room, and(three(), "head.new", b))
		p.arm(most)
		p.answers(p.open(), api.OK)
		p.is(10, 15, 15, 3)
		p.look()
		p.did("remove head.new", "sync log-5", "sync log-6", "sync log-7")
		p.has("head", "log-5", "log-6", "log-7")
	}
	p := newPair(t, room, map[string]string{"head.new": headOf(6, 12)})
	p.answers(p.open(), api.OK)
	p.is(0, 0, 0, 0)
	p.has()
}

func TestOpenWithoutPower(t *testing.T) {
	for _, files := range []map[string]string{{}, {"head.new": "x"}, {"head": "none"}, {"head": "none", "head.new": "x"}, {"log-9": "x"}, three(), and(three(), "log-5", "left")} {
		p := newPair(t, room, files)
		p.arm(0)
		p.d.Append("probe", nil)
		p.w.append("probe", "")
		for range 2 {
			p.answers(p.open(), api.ErrDown)
			p.look()
			p.did()
		}
	}
}

func TestOpenReadsSegmentsThatFollow(t *testing.T) {
	p := newPair(t, room, three())
	p.arm(3)
	p.answers(p.open(), api.OK)
	p.is(10, 15, 15, 3)
	p.did("sync log-5", "sync log-6", "sync log-7")
	p.told(10, "first")
	p.told(11, row(1010, 1))
	p.told(12, row(1018, 2))
	p.told(13, "")
	p.told(14, "last")
	p.look()

	p = opened(t, room, map[string]string{"log-1": chunks("a"), "log-2": chunks("b", "c"), "log-3": chunks("d")})
	p.is(0, 4, 4, 3)
	p.told(3, "d")
	p.has("log-1", "log-2", "log-3")
}

// The N's digits: their order is not the one of the names.
func TestOpenOfManySegments(t *testing.T) {
	files := map[string]string{"head": headOf(95, 0)}
	for i := range 12 {
		files[fileOf(95+i)] = chunks(fmt.Sprint("payload ", i))
	}
	p := newPair(t, room, files)
	p.arm(most)
	p.answers(p.open(), api.OK)
	p.is(0, 12, 12, 12)
	p.look()
	p.did("sync log-95", "sync log-96", "sync log-97", "sync log-98", "sync log-99", "sync log-100", "sync log-101", "sync log-102", "sync log-103", "sync log-104", "sync log-105", "sync log-106")
	for i := range 12 {
		p.told(i, fmt.Sprint("payload ", i))
	}
}

func TestOpenUpToTheLastSegment(t *testing.T) {
	files := map[string]string{"head": headOf(lastN-1, 7), fileOf(lastN - 1): chunks("a"), fileOf(lastN): chunks("b"), "log-1": "x", "log-100000000000": "y", "log-1000000000": "z"}
	p := newPair(t, room, files)
	p.arm(most)
	p.answers(p.open(), api.OK)
	p.is(7, 9, 9, 2)
	p.told(8, "b")
	p.look()
	p.did("sync log-999999999998", "sync log-999999999999", "remove log-1", "remove log-1000000000", "remove log-100000000000")
}

func TestOpenRemovesOthers(t *testing.T) {
	p := newPair(t, room, and(three(), "log-1", "", "log-4", chunks("x"), "log-9", chunks("y"), "log-10", "z", "log-50", chunks("x"), "log-999999999999", "w"))
	p.arm(most)
	p.answers(p.open(), api.OK)
	p.is(10, 15, 15, 3)
	p.look()
	p.did("sync log-5", "sync log-6", "sync log-7", "remove log-1", "remove log-10", "remove log-4", "remove log-50", "remove log-9", "remove log-999999999999")
	p.has("head", "log-5", "log-6", "log-7")

	// A gap, and nothing from the head's on.
	p = newPair(t, room, map[string]string{"log-1": chunks("a"), "log-3": chunks("b"), "log-4": chunks("c")})
	p.arm(most)
	p.answers(p.open(), api.OK)
	p.is(0, 1, 1, 1)
	p.look()
	p.did("sync log-1", "remove log-3", "remove log-4")
	p = newPair(t, room, map[string]string{"head": headOf(3, 9), "log-2": chunks("a"), "log-4": chunks("b")})
	p.arm(most)
	p.answers(p.open(), api.OK)
	p.is(9, 9, 9, 0)
	p.look()
	p.did("remove log-2", "remove log-4")
	p = newPair(t, room, map[string]string{"log-2": chunks("a")})
	p.answers(p.open(), api.OK)
	p.is(0, 0, 0, 0)
	p.look()
	p.has()
}

// strays are names of files that are none of a log.
func strays() []string {
	return []string{
		"log-0", "log-00", "log-05", "log-01", "log-09", "log-0000000000", "log-000000000001", "log-", "log", "log5", "log--5", "log--1", "log-+5", "log-+1", "log- 5", "log-5 ", "log-5\n", "log-5\x00", "log-5x", "log-x",
		"log-5.0", "log-5e1", "log-0x5", "log-1_0", "log-5,", "log-5-6", "log-log-5", "Log-5", "LOG-5", "xlog-5", " log-5", "og-5", "5", "9", "15", "-5", "log_5", "log-\uff15", "log-\u0665", "log-/", "log-:", "log-5:", "log-5/",
		"head.", "head.ne", "head.new2", "Head", "HEAD.NEW", "header", "a", "\x00", "log-99999999999x", "log-x99999999999", "000000000000005",
	}
}

func TestOpenLeavesFilesOfOtherNames(t *testing.T) {
	names := strays()
	for len(names) > 0 { // not all in one device: MaxFiles
		n := min(40, len(names))
		files := three()
		for _, name := range names[:n] {
			files[name] = chunks("stray") + name
		}
		p := newPair(t, room, and(files, "log-55", "x"))
		p.arm(4)
		p.answers(p.open(), api.OK)
		p.is(10, 15, 15, 3)
		p.look()
		p.has(slices.Sorted(maps.Keys(files))...)
		p.did("sync log-5", "sync log-6", "sync log-7", "remove log-55")
		names = names[n:]
	}
}

// Each one alone, on a log that has no segments: none is read as a segment or a head either.
func TestOpenOfOneFile(t *testing.T) {
	for _, name := range strays() {
		p := newPair(t, room, map[string]string{name: chunks("stray")})
		p.arm(0)
		p.answers(p.open(), api.OK)
		p.is(0, 0, 0, 0)
		p.look()
		p.has(name)
	}
	for _, n := range []int{2, 3, 9, 10, 11, 99, 100, 12345, 1<<31 - 1, 1 << 31, 1 << 32, 1<<32 + 1, lastN - 1, lastN} {
		p := newPair(t, room, map[string]string{fileOf(n): chunks("stray")})
		p.arm(1)
		p.answers(p.open(), api.OK)
		p.is(0, 0, 0, 0)
		p.has()
	}
	for digit := '1'; digit <= '9'; digit++ {
		for _, name := range []string{"log-" + string(digit), "log-2" + string(digit), "log-3" + strings.Repeat(string(digit), 11)} {
			if name == "log-1" {
				continue
			}
			p := newPair(t, room, map[string]string{name: ""})
			p.answers(p.open(), api.OK)
			p.has()
		}
	}
}

// leftovers is bytes that are no chunks.
func leftovers() []string {
	return []string{"\x00", "\x00\x05", chunkOf("cut off")[:6], chunkOf("cut off")[:12], chunkOf("")[:5], "\x04\x01" + row(1100, 9), "\xff\xff\xff\xff\xff\xff\xff", chunkOf("turned")[:11] + "D", strings.Repeat("\x00", 6), "\x00" + chunkOf("behind"), row(3000, 10), chunkOf("turned")[:11] + "D" + chunkOf("behind")}
}

func TestOpenCutsBack(t *testing.T) {
	for _, left := range leftovers() {
		for i, x := range []struct {
			next, segments int
			did            []string
		}{
			{12, 1, []string{fmt.Sprint("truncate log-5 ", 11+1016), "sync log-5", "remove log-6", "remove log-7"}},
			{13, 2, []string{"sync log-5", "truncate log-6 1024", "sync log-6", "remove log-7"}},
			{15, 3, []string{"sync log-5", "sync log-6", "truncate log-7 16", "sync log-7"}},
		} {
			name := fileOf(5 + i)
			files := three()
			p := newPair(t, room, and(files, name, files[name]+left))
			p.arm(4)
			p.answers(p.open(), api.OK)
			p.is(10, x.next, x.next, x.segments)
			p.look()
			p.did(x.did...)
			p.file(name, files[name])
		}
	}
}

// Nothing but such bytes: then there is a segment without payloads.
func TestOpenCutsBackToNothing(t *testing.T) {
	for _, left := range leftovers() {
		p := newPair(t, room, and(three(), "log-6", left))
		p.arm(most)
		p.answers(p.open(), api.OK)
		p.is(10, 12, 12, 2)
		p.look()
		p.did("sync log-5", "truncate log-6 0", "sync log-6", "remove log-7")
		p.file("log-6", "")
		p.puts("on", 12)
		p.file("log-6", chunks("on"))
		p.look()
	}
}

// Bytes in several segments: those behind the first such one are not looked at.
func TestOpenCutsBackOnce(t *testing.T) {
	p := newPair(t, room, and(three(), "log-5", chunks("a")+"x", "log-6", chunks("b")+"x", "log-8", "x"))
	p.arm(most)
	p.answers(p.open(), api.OK)
	p.is(10, 11, 11, 1)
	p.look()
	p.did("truncate log-5 7", "sync log-5", "remove log-6", "remove log-7", "remove log-8")
}

func TestOpenOfEmptySegments(t *testing.T) {
	p := opened(t, room, and(three(), "log-5", "", "log-6", ""))
	p.is(10, 12, 12, 3)
	p.told(10, "")
	p.told(11, "last")
	p = opened(t, room, and(three(), "log-6", ""))
	p.is(10, 14, 14, 3)
	p.told(11, row(1010, 1))
	p.told(12, "")
	p = opened(t, room, and(three(), "log-7", ""))
	p.is(10, 13, 13, 3)
	p.puts("on", 13)
	p.file("log-7", chunks("on"))
	p = opened(t, room, map[string]string{"log-1": ""})
	p.is(0, 0, 0, 1)
	p.puts("on", 0)
	p.file("log-1", chunks("on"))
	p.look()
}

// What is read is synced, also where nothing is cut off.
func TestOpenSyncs(t *testing.T) {
	p := newPair(t, room, nil)
	p.lays("log-1", chunks("a", row(1100-90, 2)))
	p.lays("log-2", chunks("b")+"left")
	p.answers(p.open(), api.OK)
	p.is(0, 3, 3, 2)
	p.wake(0)
	p.lookDisk()
	p.file("log-1", chunks("a", row(1010, 2)))
	p.file("log-2", chunks("b"))
	p.answers(p.open(), api.OK)
	p.is(0, 3, 3, 2)
	p.look()
}

// What was cut off makes room again, and the size of the segment is what is left.
func TestAppendBehindACut(t *testing.T) {
	p := opened(t, 2000, map[string]string{"log-1": chunks(row(400, 1)) + strings.Repeat("x", 1500)})
	p.is(0, 1, 1, 1)
	p.puts(row(500, 2), 1)
	p.puts(row(200, 3), 2)
	p.is(0, 3, 1, 1)
	p.puts("", 3)
	p.is(0, 4, 3, 2)
	p.look()
	p.has("log-1", "log-2")
}

// P14.2

func TestAppendOfSizes(t *testing.T) {
	for _, n := range []int{0, 1, 2, 255, 256, 1017, 1018, 1019, 1023, 1024} {
		p := fresh(t)
		p.arm(1)
		p.puts(row(n, n), 0)
		p.did(fmt.Sprint("append log-1 ", n+6))
		p.is(0, 1, 0, 1)
		p.file("log-1", chunkOf(row(n, n)))
		p.told(0, row(n, n))
		p.look()
	}
	for _, n := range []int{1025, 1026, 2047, 2048, 1 << 16, 1<<16 + 1} {
		p := fresh(t)
		p.refuses(row(n, n), api.ErrLong)
		p.is(0, 0, 0, 0)
		p.puts("a", 0)
		p.refuses(row(n, n), api.ErrLong)
		p.is(0, 1, 0, 1)
	}
}

func TestAppendOfNil(t *testing.T) {
	p := fresh(t)
	if n, errno := p.l.Append(nil); n != 0 || errno != 0 {
		t.Fatal(n, errno)
	}
	p.r.append("")
	p.look()
	p.puts("", 1)
	p.file("log-1", chunks("", ""))
}

func TestAppendToOneSegment(t *testing.T) {
	p := fresh(t)
	p.arm(most)
	var want []string
	for i := range 20 {
		b := row(i, i)
		want = append(want, b)
		p.puts(b, i)
		p.is(0, i+1, 0, 1)
	}
	p.look()
	p.file("log-1", chunks(want...))
	for _, word := range p.w.done {
		if !strings.HasPrefix(word, "append log-1 ") {
			t.Error(word)
		}
	}
}

// The first segment is the head's, and stays the only one that is there before a payload is.
func TestAppendToTheHeadsSegment(t *testing.T) {
	for _, n := range []int{1, 2, 77, lastN - 1, lastN} {
		p := opened(t, room, map[string]string{"head": headOf(uint64(n), 30)})
		p.arm(2)
		p.puts("a", 30)
		p.puts("b", 31)
		p.did(fmt.Sprint("append ", fileOf(n), " 7"), fmt.Sprint("append ", fileOf(n), " 7"))
		p.is(30, 32, 30, 1)
		p.look()
	}
}

func TestAppendAtSegBytes(t *testing.T) {
	for _, x := range []struct {
		size, segments int
	}{{6, 1}, {512, 1}, {1022, 1}, {1023, 1}, {1024, 2}, {1025, 2}, {1030, 2}} {
		for _, b := range []string{"", "x", row(1024, 4)} {
			p := fresh(t)
			p.puts(row(x.size-6, 1), 0)
			p.is(0, 1, 0, 1)
			p.arm(most)
			p.puts(b, 1)
			if x.segments == 1 {
				p.is(0, 2, 0, 1)
				p.did(fmt.Sprint("append log-1 ", len(b)+6))
			} else {
				p.is(0, 2, 1, 2)
				p.did("sync log-1", fmt.Sprint("append log-2 ", len(b)+6))
				p.file("log-2", chunks(b))
			}
			p.look()
		}
	}
	// Of several payloads, and in one that was there at Open.
	p := opened(t, room, map[string]string{"log-1": chunks(row(494, 1), "")})
	p.puts(row(505, 2), 2)
	p.is(0, 3, 2, 1)
	p.puts(row(1024, 3), 3)
	p.is(0, 4, 2, 1)
	p.puts("", 4)
	p.is(0, 5, 4, 2)
	p.look()
}

// If all is synced, a new segment needs no further Sync.
func TestAppendToANewSegmentBehindASync(t *testing.T) {
	p := fresh(t)
	p.puts(row(1018, 1), 0)
	p.answers(p.sync(), api.OK)
	p.arm(1)
	p.puts("a", 1)
	p.is(0, 2, 1, 2)
	p.did("append log-2 7")
	p.look()

	p = opened(t, room, map[string]string{"head": headOf(9, 3), "log-9": chunks(row(1018, 1))})
	p.arm(1)
	p.puts("a", 4)
	p.is(3, 5, 4, 2)
	p.did("append log-10 7")
	p.look()
}

func TestAppendUpToMaxSeq(t *testing.T) {
	for _, more := range []string{"", row(1024, 1)} {
		p := opened(t, room, map[string]string{"head": headOf(1, maxSeq-2)})
		p.puts(more, maxSeq-2)
		p.puts(more, maxSeq-1)
		p.refuses("", api.ErrState)
		p.refuses(row(1024, 1), api.ErrState)
		p.is(maxSeq-2, maxSeq, p.r.safe, len(p.r.rows))
		p.answers(p.sync(), api.OK)
		p.refuses("", api.ErrState)
	}
	p := opened(t, room, map[string]string{"head": headOf(1, maxSeq)})
	p.refuses("", api.ErrState)
	p.is(maxSeq, maxSeq, maxSeq, 0)
	p = opened(t, room, map[string]string{"head": headOf(1, maxSeq-1), "log-1": chunks("a", "b", "c")})
	p.is(maxSeq-1, maxSeq+2, maxSeq+2, 1)
	p.told(maxSeq+1, "c")
	p.refuses("", api.ErrState)
}

func TestAppendToTheLastSegment(t *testing.T) {
	name := fileOf(lastN)
	p := opened(t, room, map[string]string{"head": headOf(lastN-1, 0), fileOf(lastN - 1): chunks(row(1018, 1))})
	p.puts(row(1017, 2), 1)
	p.is(0, 2, 1, 2)
	p.has("head", fileOf(lastN-1), name)
	p.puts("", 2)
	p.is(0, 3, 1, 2)
	p.refuses("", api.ErrState)
	p.refuses(row(1024, 1), api.ErrState)
	p.is(0, 3, 1, 2)
	p.answers(p.sync(), api.OK)
	p.refuses("", api.ErrState)
	// Dropping the others does not help it.
	p.answers(p.trim(most, 0), api.OK)
	p.is(1, 3, 3, 1)
	p.refuses("", api.ErrState)
	p.look()
	// That the one ahead of it is full is no matter.
	p = opened(t, room, map[string]string{"head": headOf(lastN-2, 0), fileOf(lastN - 2): chunks(row(1018, 1))})
	p.puts(row(1018, 2), 1)
	p.puts(row(1018, 3), 2)
	p.refuses("", api.ErrState)
}

func TestAppendWithoutRoom(t *testing.T) {
	for _, x := range []struct {
		n, free int
		want    api.Errno
	}{{0, 0, api.ErrFull}, {0, 5, api.ErrFull}, {0, 6, api.OK}, {0, 7, api.OK}, {100, 105, api.ErrFull}, {100, 106, api.OK}, {1024, 1029, api.ErrFull}, {1024, 1030, api.OK}} {
		// To a first segment, to one that is there, and to a new one.
		for _, behind := range []int{-1, 0, 1, 1017, 1018, 1024} {
			used := 0
			if behind >= 0 {
				used = behind + 6
			}
			p := opened(t, used+x.free, nil)
			want := 0
			if behind >= 0 {
				p.puts(row(behind, 1), 0)
				want = 1
			}
			n, errno := p.append(row(x.n, 2))
			p.answers(errno, x.want)
			if errno == 0 && n != want {
				t.Error(n)
			}
			p.look()
		}
	}
}

// Nothing has changed then but what Sync did, and it goes on as soon as there is room.
func TestAppendWithoutRoomForANewSegment(t *testing.T) {
	p := opened(t, 1024+1024+7, nil)
	p.puts(row(1018, 1), 0)
	p.lays("other", row(1000, 1))
	p.arm(most)
	if _, errno := p.append(row(100, 1)); errno != api.ErrFull {
		t.Fatal(errno)
	}
	p.is(0, 1, 1, 1)
	p.look()
	p.did("sync log-1")
	p.has("log-1", "other")
	if _, errno := p.append(row(100, 1)); errno != api.ErrFull {
		t.Fatal(errno)
	}
	p.did("sync log-1")
	p.is(0, 1, 1, 1)
	p.puts("a", 1)
	p.is(0, 2, 1, 2)
	p.has("log-1", "log-2", "other")
	p.look()
}

func TestAppendWithTooManyFiles(t *testing.T) {
	files := map[string]string{}
	for i := range 63 {
		files[fmt.Sprint("other ", i)] = ""
	}
	p := opened(t, room, files)
	p.puts("a", 0)
	p.puts(row(1024, 1), 1)
	if _, errno := p.append("b"); errno != api.ErrFull {
		t.Fatal(errno)
	}
	p.is(0, 2, 2, 1)
	p.look()
	p.d.Remove("other 7")
	p.w.remove("other 7")
	p.puts("b", 2)
	p.is(0, 3, 2, 2)
	p.look()

	p = opened(t, room, and(files, "the last one", ""))
	if _, errno := p.append(""); errno != api.ErrFull {
		t.Fatal(errno)
	}
	p.is(0, 0, 0, 0)
	p.look()
}

// fault is what is wrong with an Append, each of which may go with each other.
type fault struct {
	errno api.Errno
	// What is done, to files of the device, ahead of Open, or to the device and the payload behind it.
	files func(files map[string]string)
	then  func(p *pair, b *string)
}

// faults is what may be wrong with an Append, in the order in which it is told. Its log has one segment, with one payload in it, which lasts.
func faults() []fault {
	return []fault{
		{api.ErrDown, nil, func(p *pair, b *string) {
			p.arm(0)
			p.d.Append("probe", nil)
			p.w.append("probe", "")
		}},
		{api.ErrLong, nil, func(p *pair, b *string) { *b = row(1025, 1) }},
		{api.ErrState, func(files map[string]string) { files["head"] = headOf(lastN-1, maxSeq-1) }, nil},
		{api.ErrState, func(files map[string]string) {
			files["head"] = headOf(lastN, 5)
			files[fileOf(lastN)] = chunks(row(1018, 1))
		}, nil},
		{api.ErrFull, nil, func(p *pair, b *string) { p.lays("other", strings.Repeat("x", p.d.Free())) }},
	}
}

func TestTheFirstErrorOfAppendIsTold(t *testing.T) {
	l := faults()
	for set := range 1 << len(l) {
		if set&0b01100 == 0b01100 { // both hang on the head
			continue
		}
		files := map[string]string{"head": headOf(lastN-1, 5), fileOf(lastN - 1): chunks("a")}
		want := api.OK
		for i, f := range l {
			if set>>i&1 == 1 && f.files != nil {
				f.files(files)
			}
			if set>>i&1 == 1 && want == api.OK {
				want = f.errno
			}
		}
		p := opened(t, room, files)
		b := "b"
		for i := len(l) - 1; i >= 0; i-- {
			if set>>i&1 == 1 && l[i].then != nil {
				l[i].then(p, &b)
			}
		}
		first, next, safe, segments := p.l.First(), p.l.Next(), p.l.Safe(), p.l.Segments()
		n, errno := p.append(b)
		p.answers(errno, want)
		if errno != 0 {
			p.is(first, next, safe, segments)
		} else if n != next {
			t.Error(n)
		}
		p.look()
	}
}

// If there is no room, what comes too late for the power is not told: the device tells that first.
func TestAppendWithoutRoomAndTooLate(t *testing.T) {
	p := opened(t, 20, nil)
	p.puts(row(10, 1), 0)
	p.arm(0)
	p.refuses(row(10, 1), api.ErrFull)
	p.arm(0)
	if _, errno := p.append(row(10, 1)); errno != api.ErrFull {
		t.Fatal(errno)
	}
	p.look()
}

// P14.3

func TestSync(t *testing.T) {
	p := fresh(t)
	p.arm(0)
	p.answers(p.sync(), api.OK) // no segment
	p.did()
	p.look()
	p.arm(-1)
	p.puts("a", 0)
	p.puts("b", 1)
	p.is(0, 2, 0, 1)
	p.arm(1)
	p.answers(p.sync(), api.OK)
	p.is(0, 2, 2, 1)
	p.did("sync log-1")
	p.answers(p.sync(), api.OK) // twice
	p.did("sync log-1")
	p.is(0, 2, 2, 1)
	p.look()
	p.arm(-1)
	p.puts("c", 2)
	p.is(0, 3, 2, 1)
	p.wake(0)
	p.lookDisk()
	p.answers(p.open(), api.OK)
	p.is(0, 2, 2, 1)
	p.look()
}

func TestSyncOfTheCurrentSegmentAlone(t *testing.T) {
	p := opened(t, room, three())
	p.puts("more", 15)
	p.arm(most)
	p.answers(p.sync(), api.OK)
	p.did("sync log-7")
	p.puts(row(1024, 1), 16)
	p.puts("a", 17)
	p.is(10, 18, 17, 4)
	p.answers(p.sync(), api.OK)
	p.is(10, 18, 18, 4)
	p.did("sync log-7", "append log-7 1030", "sync log-7", "append log-8 7", "sync log-8")
	p.look()
}

func TestSyncWithoutPower(t *testing.T) {
	p := fresh(t)
	p.puts("a", 0)
	p.answers(p.sync(), api.OK)
	p.arm(0)
	p.answers(p.sync(), api.OK) // nothing to sync is no operation
	if _, errno := p.append("b"); errno != api.ErrDown {
		t.Fatal(errno)
	}
	p.answers(p.sync(), api.ErrDown) // and with the power off it is told all the same
	p.is(0, 1, 1, 1)
	p.look()

	p = fresh(t)
	p.puts("a", 0)
	p.arm(0)
	p.answers(p.sync(), api.ErrDown)
	p.is(0, 1, 0, 1)
	p.answers(p.sync(), api.ErrDown)
	p.look()
}

// P14.4

// five is a log with five segments of one payload each, from N 9 and number 100 on; all last but the last one.
func five(t *testing.T, room int) *pair {
	t.Helper()
	p := opened(t, room, map[string]string{"head": headOf(9, 100)})
	for i := range 5 {
		p.puts(row(1018+i, i), 100+i)
	}
	p.is(100, 105, 104, 5)
	return p
}

func TestTrimOf(t *testing.T) {
	for _, x := range []struct {
		to, keep, drop int
	}{
		{least, 0, 0}, {-1, 0, 0}, {0, 0, 0}, {99, 0, 0}, {100, 0, 0}, {101, 0, 1}, {102, 0, 2}, {103, 0, 3}, {104, 0, 4}, {105, 0, 4}, {106, 0, 4}, {most, 0, 4},
		{most, 1, 4}, {most, 2, 3}, {most, 3, 2}, {most, 4, 1}, {most, 5, 0}, {most, 6, 0}, {most, most, 0}, {most, most - 1, 0}, {most, -1, 4}, {most, least, 4}, {most, least + 1, 4},
		{102, 2, 2}, {102, 3, 2}, {102, 4, 1}, {103, 3, 2}, {101, least, 1}, {100, least, 0}, {least, least, 0}, {least, most, 0},
	} {
		p := five(t, room)
		p.arm(most)
		p.answers(p.trim(x.to, x.keep), api.OK)
		p.is(100+x.drop, 105, 104, 5-x.drop)
		p.look()
		var want []string
		if x.drop > 0 {
			want = []string{"append head.new 22", "sync head.new", "rename head.new head"}
		}
		for i := range x.drop {
			want = append(want, "remove "+fileOf(9+i))
		}
		p.did(want...)
		p.file("head", headOf(uint64(9+x.drop), uint64(100+x.drop)))
		// It goes on as if those had never been.
		p.puts("on", 105)
		p.is(100+x.drop, 106, 105, 6-x.drop)
		p.answers(p.sync(), api.OK)
		p.look()
		p.wake(0)
		p.answers(p.open(), api.OK)
		p.is(100+x.drop, 106, 106, 6-x.drop)
		p.look()
	}
}

// With nothing to drop nothing is done at all.
func TestTrimOfNothing(t *testing.T) {
	for _, p := range []*pair{fresh(t), opened(t, room, map[string]string{"head": headOf(9, 100)}), opened(t, 7, map[string]string{"log-1": chunks("a")}), opened(t, room, map[string]string{"log-1": ""})} {
		p.arm(0)
		for _, to := range []int{least, 0, 1, 2, most} {
			for _, keep := range []int{least, -1, 0, 1, 2, most} {
				p.answers(p.trim(to, keep), api.OK)
			}
		}
		p.did()
		p.look()
	}
	p := five(t, room)
	p.arm(0)
	p.answers(p.trim(100, 0), api.OK)
	p.answers(p.trim(most, 5), api.OK)
	p.did()
	p.look()
}

// Segments of several payloads are dropped as wholes.
func TestTrimOfWholeSegments(t *testing.T) {
	for _, x := range []struct {
		to, first, segments int
	}{{9, 10, 3}, {10, 10, 3}, {11, 10, 3}, {12, 12, 2}, {13, 13, 1}, {14, 13, 1}, {15, 13, 1}, {most, 13, 1}} {
		p := opened(t, room, three())
		p.answers(p.trim(x.to, 1), api.OK)
		p.is(x.first, 15, 15, x.segments)
		p.look()
	}
}

// None is dropped that has a payload that may not last. (Only the current one may have such, and that one stays anyway: the bound by Safe can't be seen alone.)
func TestTrimUpToSafe(t *testing.T) {
	p := fresh(t)
	p.puts(row(1018, 1), 0)
	p.answers(p.trim(most, 0), api.OK)
	p.is(0, 1, 0, 1)
	p.puts(row(1018, 2), 1)
	p.is(0, 2, 1, 2)
	p.answers(p.trim(most, 0), api.OK)
	p.is(1, 2, 1, 1)
	p.answers(p.sync(), api.OK)
	p.answers(p.trim(most, 0), api.OK)
	p.is(1, 2, 2, 1)
	p.look()
}

// A segment without payloads has none that would have to stay.
func TestTrimOfEmptySegments(t *testing.T) {
	for _, x := range []struct {
		to, keep, first, segments int
	}{{least, 0, 10, 2}, {9, 0, 10, 2}, {10, 0, 10, 2}, {9, 2, 10, 2}, {9, 3, 10, 3}, {11, 0, 10, 2}, {12, 0, 12, 1}} {
		p := opened(t, room, and(three(), "log-5", "", "log-6", chunks("a", "b")))
		p.answers(p.trim(x.to, x.keep), api.OK)
		p.is(x.first, 14, 14, x.segments)
		p.look()
	}
	for _, x := range []struct {
		to, first, segments int
	}{{10, 10, 3}, {11, 10, 3}, {12, 12, 1}, {13, 12, 1}} {
		p := opened(t, room, and(three(), "log-6", ""))
		p.answers(p.trim(x.to, 0), api.OK)
		p.is(x.first, 14, 14, x.segments)
		p.look()
	}
	p := opened(t, room, and(three(), "log-5", "", "log-6", "", "log-7", ""))
	p.is(10, 10, 10, 3)
	p.arm(most)
	p.answers(p.trim(0, 0), api.OK)
	p.is(10, 10, 10, 1)
	p.file("head", headOf(7, 10))
	p.did("append head.new 22", "sync head.new", "rename head.new head", "remove log-5", "remove log-6")
	p.look()
}

func TestTrimAgainAndAgain(t *testing.T) {
	p := fresh(t)
	for i := range 40 {
		p.puts(row(1018, i), i)
		if i%3 == 2 {
			p.answers(p.trim(i-1, 1), api.OK)
			p.is(i-1, i+1, i, 2)
			p.look()
		}
	}
	p.has("head", "log-38", "log-39", "log-40")
	p.file("head", headOf(38, 37))
}

func TestTrimWithoutRoom(t *testing.T) {
	for _, x := range []struct {
		free int
		want api.Errno
	}{{0, api.ErrFull}, {21, api.ErrFull}, {22, api.OK}, {23, api.OK}} {
		p := five(t, room)
		p.lays("other", strings.Repeat("x", p.d.Free()-x.free))
		p.arm(most)
		p.answers(p.trim(102, 1), x.want)
		if x.want != 0 {
			p.did()
			p.is(100, 105, 104, 5)
			p.has("head", "log-10", "log-11", "log-12", "log-13", "log-9", "other")
		} else {
			p.is(102, 105, 104, 3)
		}
		p.look()
	}
}

func TestTrimWithTooManyFiles(t *testing.T) {
	p := five(t, room)
	for i := len(p.d.Names()); i < 64; i++ {
		p.lays(fmt.Sprint("other ", i), "")
	}
	p.arm(most)
	p.answers(p.trim(102, 1), api.ErrFull)
	p.did()
	p.is(100, 105, 104, 5)
	p.look()
	p.d.Remove("other 60")
	p.w.remove("other 60")
	p.answers(p.trim(102, 1), api.OK)
	p.is(102, 105, 104, 3)
	p.look()
}

// Nobody else should lay a head.new while a log is used; but it goes, as the chapter says, where there is something to drop.
func TestTrimWithANewHeadThere(t *testing.T) {
	for _, b := range []string{"", "x", headOf(3, 4)} {
		p := five(t, room)
		p.lays("head.new", b)
		p.arm(most)
		p.answers(p.trim(100, 1), api.OK)
		p.did()
		p.file("head.new", b)
		p.answers(p.trim(101, 1), api.OK)
		p.did("remove head.new", "append head.new 22", "sync head.new", "rename head.new head", "remove log-9")
		p.file("head", headOf(10, 101))
		p.look()

		p = five(t, room)
		p.lays("head.new", b)
		p.arm(0)
		p.answers(p.trim(101, 1), api.ErrDown)
		p.is(100, 105, 104, 5)
		p.look()
	}
}

func TestTrimWithoutPower(t *testing.T) {
	for _, x := range [][2]int{{101, 1}, {100, 1}, {most, 5}, {least, most}} {
		p := five(t, room)
		p.arm(0)
		if _, errno := p.append(""); errno != api.ErrDown {
			t.Fatal(errno)
		}
		p.answers(p.trim(x[0], x[1]), api.ErrDown)
		p.is(100, 105, 104, 5)
		p.look()
	}
}

// Without power, and without room for head.new as well.
func TestTrimWithoutPowerAndRoom(t *testing.T) {
	p := five(t, room)
	p.lays("other", strings.Repeat("x", p.d.Free()-6))
	p.arm(0)
	p.answers(p.trim(101, 1), api.ErrFull)
	p.did()
	p.look()
	if _, errno := p.append(""); errno != api.ErrDown {
		t.Fatal(errno)
	}
	p.answers(p.trim(101, 1), api.ErrDown)
	p.look()
}

// P14.5

func TestGet(t *testing.T) {
	p := opened(t, room, three())
	for _, x := range []struct {
		n     int
		want  string
		errno api.Errno
	}{
		{least, "", api.ErrGone}, {-1, "", api.ErrGone}, {0, "", api.ErrGone}, {9, "", api.ErrGone}, {10, "first", 0}, {11, row(1010, 1), 0}, {12, row(1018, 2), 0}, {13, "", 0}, {14, "last", 0},
		{15, "", api.ErrNone}, {16, "", api.ErrNone}, {1 << 32, "", api.ErrNone}, {1<<32 + 10, "", api.ErrNone}, {maxSeq, "", api.ErrNone}, {most, "", api.ErrNone}, {-1<<32 + 10, "", api.ErrGone}, {least + 10, "", api.ErrGone},
	} {
		b, errno := p.l.Get(x.n)
		if string(b) != x.want || errno != x.errno || errno != 0 && b != nil {
			t.Errorf("Get %d: %.20x, %d", x.n, b, errno)
		}
	}
	for _, n := range []int{-1, 0, 1} {
		if b, errno := fresh(t).l.Get(n); b != nil || (errno == api.ErrGone) != (n < 0) || (errno == api.ErrNone) != (n >= 0) {
			t.Error(n, b, errno)
		}
	}
}

// What is told does not change when it is asked for, and costs no operation.
func TestTellingIsNoOperation(t *testing.T) {
	p := five(t, room)
	p.arm(0)
	for range 3 {
		p.look()
	}
	p.did()
	p.answers(p.trim(102, 1), api.ErrDown)
	for range 3 {
		p.look()
	}
}

// The payload that the power failed ahead of has no number.
func TestToldWithThePowerOff(t *testing.T) {
	p := five(t, room)
	p.arm(0)
	for range 3 {
		if n, errno := p.append("more"); n != 0 || errno != api.ErrDown {
			t.Fatal(n, errno)
		}
		p.is(100, 105, 104, 5)
		p.look()
	}
	p.told(104, row(1022, 4))

	// Behind a Sync that was done it has failed ahead of the new segment.
	p = five(t, room)
	p.arm(1)
	if _, errno := p.append("more"); errno != api.ErrDown {
		t.Fatal(errno)
	}
	p.is(100, 105, 105, 5)
	p.has("head", "log-10", "log-11", "log-12", "log-13", "log-9")
	p.look()
}

// All that a Trim was to drop is told yet, even if its files are gone.
func TestToldAmidATrim(t *testing.T) {
	for k := range 8 {
		p := five(t, room)
		before := p.d.Names()
		p.arm(k)
		want := api.ErrDown
		if k == 7 {
			want = api.OK
		}
		p.answers(p.trim(104, 1), want)
		if k == 7 {
			p.is(104, 105, 104, 1)
			continue
		}
		p.is(100, 105, 104, 5)
		for i := range 5 {
			p.told(100+i, row(1018+i, i))
		}
		p.look()
		gone := max(k-3, 0)
		for i, name := range []string{"log-9", "log-10", "log-11", "log-12", "log-13"} {
			if is := slices.Contains(p.d.Names(), name); is != (i >= gone) || !slices.Contains(before, name) {
				t.Error(k, name, is)
			}
		}
		p.answers(p.trim(104, 1), api.ErrDown)
		p.look()
	}
}

// Two logs on two devices, and the logs of one device one behind the other, are not one.
func TestLogsAreNotOne(t *testing.T) {
	p, q := five(t, room), opened(t, room, three())
	p.puts("p", 105)
	q.puts("q", 15)
	p.answers(p.trim(103, 1), api.OK)
	p.look()
	q.look()
	l := p.l
	p.answers(p.open(), api.OK)
	p.look()
	if l.First() != 103 || l.Next() != 106 || l.Safe() != 105 {
		t.Error(l.First(), l.Next(), l.Safe())
	}
}

// R1

// Of a log whose files others touch nothing is promised; but it ends, and does not panic.
func TestATouchedLog(t *testing.T) {
	touch := []func(d *device.Device){
		func(d *device.Device) { d.Wake(0) },
		func(d *device.Device) { d.Truncate("log-13", 0) },
		func(d *device.Device) { d.Truncate("log-9", 100) },
		func(d *device.Device) { d.Remove("log-13") },
		func(d *device.Device) { d.Remove("log-9") },
		func(d *device.Device) { d.Append("log-9", []byte(chunkOf("more"))) },
		func(d *device.Device) { d.Append("log-14", []byte(chunkOf("more"))) },
		func(d *device.Device) { d.Rename("head", "log-9") },
	}
	for i := range touch {
		for k := -1; k < 7; k++ {
			p := five(t, room)
			p.d.Arm(k)
			if k >= 0 {
				p.l.Trim(104, 1)
				p.d.Wake(1)
			}
			touch[i](p.d)
			for range 3 {
				for n := 98; n < 110; n++ {
					p.l.Get(n)
				}
				p.l.Sync()
				p.l.Append([]byte("a"))
				p.l.Append(make([]byte, 1024))
				p.l.Trim(103, 2)
				p.l.Trim(most, 0)
			}
		}
	}
}

// R3

func TestPayloadsAreNotKept(t *testing.T) {
	p := fresh(t)
	b := []byte("payload")
	for i := range 3 {
		if n, errno := p.l.Append(b); n != i || errno != 0 {
			t.Fatal(n, errno)
		}
		p.r.append(string(b))
		b[0]++
	}
	clear(b)
	p.told(0, "payload")
	p.told(1, "qayload")
	p.told(2, "rayload")
	p.look()
}

func TestPayloadsAreNewMemory(t *testing.T) {
	p := five(t, room)
	p.arm(5)
	p.answers(p.trim(104, 1), api.ErrDown) // of the first two segments the log keeps what they held
	for n := 100; n < 105; n++ {
		one, _ := p.l.Get(n)
		two, _ := p.l.Get(n)
		want := string(two)
		spoil(one)
		if string(two) != want {
			t.Fatalf("two answers of Get %d share memory", n)
		}
		spoil(two)
		p.told(n, want)
	}
	p.look()
}

// Examples

func TestExamples(t *testing.T) {
	p := fresh(t)
	p.puts("\x01", 0)
	p.puts("", 1)
	p.is(0, 2, 0, 1)
	p.answers(p.sync(), api.OK)
	p.puts("\x02", 2)
	p.arm(0)
	p.answers(p.sync(), api.ErrDown)
	p.wake(0)
	p.answers(p.open(), api.OK)
	p.is(0, 2, 2, 1)
	p.told(1, "")
	if b, errno := p.l.Get(2); b != nil || errno != api.ErrNone {
		t.Error(b, errno)
	}
	p.puts(row(1024, 1), 2)
	p.puts("\x03", 3)
	p.is(0, 4, 3, 2)
	p.answers(p.sync(), api.OK)
	p.answers(p.trim(3, 1), api.OK)
	p.is(3, 4, 4, 1)
	if b, errno := p.l.Get(2); b != nil || errno != api.ErrGone {
		t.Error(b, errno)
	}
	p.refuses(row(1025, 1), api.ErrLong)
	p.look()
}
