package segs_test

import (
	"bytes"
	"encoding/binary"
	"fmt"
	"hash/crc32"
	"maps"
	"math"
	"regexp"
	"slices"
	"strings"
	"testing"

	"outstation/api"
	"outstation/device"
	"outstation/segs"
)

const (
	least = math.MinInt
	most  = math.MaxInt

	lastN  = 999999999999
	maxSeq = 1 << 40
)

// content is a file's bytes: those that are synced, and those behind them.
type content struct{ fast, loose string }

func (c content) all() string { return c.fast + c.loose }

// disk is a device as far as a log needs it, which tells what was done.
type disk struct {
	room  int
	files map[string]content
	down  bool
	armed bool
	more  int
	done  []string
}

func (w *disk) used() int {
	n := 0
	for _, c := range w.files {
		n += len(c.all())
	}
	return n
}

func (w *disk) names() []string { return slices.Sorted(maps.Keys(w.files)) }

// operation does what is to be done, unless the power fails, or has failed.
func (w *disk) operation(words string, do func()) api.Errno {
	if w.down || w.armed && w.more == 0 {
		w.down = true
		return api.ErrDown
	}
	w.more--
	w.done = append(w.done, words)
	do()
	return 0
}

func (w *disk) append(name, b string) api.Errno {
	file, there := w.files[name]
	if !w.down && (!there && len(w.files) >= 64 || w.used()+len(b) > w.room) {
		return api.ErrFull
	}
	return w.operation(fmt.Sprint("append ", name, " ", len(b)), func() { w.files[name] = content{file.fast, file.loose + b} })
}

func (w *disk) sync(name string) api.Errno {
	return w.operation("sync "+name, func() { w.files[name] = content{fast: w.files[name].all()} })
}

func (w *disk) truncate(name string, n int) api.Errno {
	return w.operation(fmt.Sprint("truncate ", name, " ", n), func() {
		file := w.files[name]
		fast := file.fast[:min(n, len(file.fast))]
		w.files[name] = content{fast, file.all()[len(fast):n]}
	})
}

func (w *disk) rename(from, to string) api.Errno {
	return w.operation("rename "+from+" "+to, func() {
		w.files[to] = w.files[from]
		delete(w.files, from)
	})
}

func (w *disk) remove(name string) api.Errno {
	return w.operation("remove "+name, func() { delete(w.files, name) })
}

func (w *disk) wake(keep int) {
	for name, c := range w.files {
		n := min(max(keep, 0), len(c.loose))
		w.files[name] = content{fast: c.fast + c.loose[:n]}
	}
	w.down, w.armed = false, false
}

// chunkOf is a payload's chunk.
func chunkOf(p string) string {
	length := binary.BigEndian.AppendUint16(nil, uint16(len(p)))
	return string(binary.BigEndian.AppendUint32(length, crc32.ChecksumIEEE([]byte(string(length)+p)))) + p
}

// chunks is the chunks of some payloads, one behind the other.
func chunks(l ...string) string {
	out := ""
	for _, p := range l {
		out += chunkOf(p)
	}
	return out
}

// payloadsOf is the payloads of the chunks that a text begins with, and what is left behind them.
func payloadsOf(b string) ([]string, string) {
	var out []string
	for len(b) >= 6 {
		end := 6 + int(binary.BigEndian.Uint16([]byte(b)))
		if end > 1030 || end > len(b) || chunkOf(b[6:end]) != b[:end] {
			break
		}
		out = append(out, b[6:end])
		b = b[end:]
	}
	return out, b
}

// numbers is two numbers of eight bytes.
func numbers(n, first uint64) string {
	return string(binary.BigEndian.AppendUint64(binary.BigEndian.AppendUint64(nil, n), first))
}

// headOf is a head.
func headOf(n, first uint64) string { return chunkOf(numbers(n, first)) }

// fileOf is the name of a segment's file.
func fileOf(n int) string { return fmt.Sprintf("log-%d", n) }

// logFile is what the name of a log's file is like.
var logFile = regexp.MustCompile(`^log-[1-9][0-9]{0,11}$`)

// reading is a log by the chapter's words, a second one beside the program's: each segment with all its payloads.
type reading struct {
	w     *disk
	n     int // of the first segment
	first int
	rows  [][]string
	safe  int
}

func (r *reading) next() int { return r.first + len(slices.Concat(r.rows...)) }

// size is how many bytes the current segment's file has.
func (r *reading) size() int {
	if len(r.rows) == 0 {
		return 0
	}
	return len(chunks(r.rows[len(r.rows)-1]...))
}

// current is the name of the current segment's file.
func (r *reading) current() string { return fileOf(r.n + len(r.rows) - 1) }

// all does one operation behind the other, as long as none is refused.
func all(l ...func() api.Errno) api.Errno {
	for _, do := range l {
		if errno := do(); errno != 0 {
			return errno
		}
	}
	return 0
}

// openReading is the log that a disk holds, or none.
func openReading(w *disk) (*reading, api.Errno) {
	r := &reading{w: w, n: 1}
	errno := all(r.clear, r.readHead, r.readAll, r.removeOthers)
	if errno != 0 {
		return nil, errno
	}
	r.safe = r.next()
	return r, 0
}

// clear removes head.new, if the power is on.
func (r *reading) clear() api.Errno {
	if r.w.down {
		return api.ErrDown
	}
	if _, is := r.w.files["head.new"]; !is {
		return 0
	}
	return r.w.remove("head.new")
}

func (r *reading) readHead() api.Errno {
	file, is := r.w.files["head"]
	if !is {
		return 0
	}
	l, left := payloadsOf(file.all())
	if len(l) != 1 || left != "" || len(l[0]) != 16 {
		return api.ErrHead
	}
	n, first := binary.BigEndian.Uint64([]byte(l[0])), binary.BigEndian.Uint64([]byte(l[0][8:]))
	if n == 0 || n > lastN || first > maxSeq {
		return api.ErrHead
	}
	r.n, r.first = int(n), int(first)
	return 0
}

func (r *reading) readAll() api.Errno {
	left := ""
	for left == "" {
		name := fileOf(r.n + len(r.rows))
		file, is := r.w.files[name]
		if !is {
			break
		}
		var l []string
		l, left = payloadsOf(file.all())
		if left != "" {
			if errno := r.w.truncate(name, len(file.all())-len(left)); errno != 0 {
				return errno
			}
		}
		if errno := r.w.sync(name); errno != 0 {
			return errno
		}
		r.rows = append(r.rows, l)
	}
	return 0
}

func (r *reading) removeOthers() api.Errno {
	var own []string
	for i := range r.rows {
		own = append(own, fileOf(r.n+i))
	}
	for _, name := range r.w.names() {
		if logFile.MatchString(name) && !slices.Contains(own, name) {
			if errno := r.w.remove(name); errno != 0 {
				return errno
			}
		}
	}
	return 0
}

func (r *reading) append(p string) (int, api.Errno) {
	full := r.size() >= 1024
	switch {
	case r.w.down:
		return 0, api.ErrDown
	case len(p) > 1024:
		return 0, api.ErrLong
	case r.next() >= maxSeq || full && r.current() == "log-999999999999":
		return 0, api.ErrState
	}
	rows := r.rows
	if full {
		if errno := r.sync(); errno != 0 {
			return 0, errno
		}
	}
	if full || len(rows) == 0 {
		rows = append(slices.Clone(rows), nil)
	}
	at := len(rows) - 1
	if errno := r.w.append(fileOf(r.n+at), chunkOf(p)); errno != 0 {
		return 0, errno
	}
	n := r.next()
	rows[at] = append(slices.Clone(rows[at]), p)
	r.rows = rows
	return n, 0
}

func (r *reading) sync() api.Errno {
	if r.w.down {
		return api.ErrDown
	}
	if r.safe == r.next() {
		return 0
	}
	errno := r.w.sync(r.current())
	if errno == 0 {
		r.safe = r.next()
	}
	return errno
}

// mayGo says whether all payloads of the segment behind some others have numbers below both.
func (r *reading) mayGo(ahead, to int) bool {
	first := r.first + len(slices.Concat(r.rows[:ahead]...))
	for i := range r.rows[ahead] {
		if first+i >= to || first+i >= r.safe {
			return false
		}
	}
	return true
}

func (r *reading) trim(to, keep int) api.Errno {
	if r.w.down {
		return api.ErrDown
	}
	drop := 0
	for len(r.rows)-drop > 1 && len(r.rows)-drop > keep && r.mayGo(drop, to) {
		drop++
	}
	if drop == 0 {
		return 0
	}
	n, first := r.n+drop, r.first+len(slices.Concat(r.rows[:drop]...))
	steps := []func() api.Errno{
		r.clear,
		func() api.Errno { return r.w.append("head.new", headOf(uint64(n), uint64(first))) },
		func() api.Errno { return r.w.sync("head.new") },
		func() api.Errno { return r.w.rename("head.new", "head") },
	}
	for i := range drop {
		steps = append(steps, func() api.Errno { return r.w.remove(fileOf(r.n + i)) })
	}
	errno := all(steps...)
	if errno == 0 {
		r.n, r.first, r.rows = n, first, r.rows[drop:]
	}
	return errno
}

func (r *reading) get(n int) (string, api.Errno) {
	if n < r.first {
		return "", api.ErrGone
	}
	if n >= r.next() {
		return "", api.ErrNone
	}
	return slices.Concat(r.rows...)[n-r.first], 0
}

// pair is a log on a device and what these must be, to which the same is done. Without a log (none is open) l is nil.
type pair struct {
	t      *testing.T
	d      *device.Device
	l      *segs.Log
	w      *disk
	r      *reading
	script []string
}

// newPair is a device with files, synced all, and what it must be.
func newPair(t *testing.T, room int, files map[string]string) *pair {
	t.Helper()
	d, errno := device.New(room)
	if errno != 0 {
		t.Fatalf("device: %d", errno)
	}
	p := &pair{t: t, d: d, w: &disk{room: room, files: map[string]content{}}}
	for _, name := range slices.Sorted(maps.Keys(files)) {
		p.lays(name, files[name])
		p.d.Sync(name)
		p.w.sync(name)
	}
	return p
}

// lays puts bytes behind a file's on the device itself, not synced.
func (p *pair) lays(name, b string) {
	p.t.Helper()
	p.tell("lays %s, %d bytes", name, len(b))
	if errno := p.d.Append(name, []byte(b)); errno != p.w.append(name, b) || errno != 0 {
		p.t.Fatalf("device: %d, behind %v", errno, p.script)
	}
}

func (p *pair) tell(words string, l ...any) { p.script = append(p.script, fmt.Sprintf(words, l...)) }

// holds holds an answer against what it must be.
func (p *pair) holds(n int, errno api.Errno, want int, wantErrno api.Errno) {
	p.t.Helper()
	if n != want || errno != wantErrno {
		p.t.Fatalf("%d, %d, not %d, %d, behind %v", n, errno, want, wantErrno, p.script)
	}
}

func (p *pair) open() api.Errno {
	p.t.Helper()
	p.tell("Open")
	want, wantErrno := openReading(p.w)
	l, errno := segs.Open(p.d)
	p.holds(0, errno, 0, wantErrno)
	if (l != nil) != (errno == 0) {
		p.t.Fatalf("a log beside %d: %t, behind %v", errno, l != nil, p.script)
	}
	p.l, p.r = l, want
	return errno
}

func (p *pair) append(b string) (int, api.Errno) {
	p.t.Helper()
	p.tell("Append of %d bytes", len(b))
	want, wantErrno := p.r.append(b)
	given, whole := roomy(b)
	before := bytes.Clone(whole)
	n, errno := p.l.Append(given)
	p.holds(n, errno, want, wantErrno)
	if !bytes.Equal(whole, before) {
		p.t.Fatalf("what was handed in is changed, or what lies behind it, behind %v", p.script)
	}
	spoil(given)
	return n, errno
}

func (p *pair) sync() api.Errno {
	p.t.Helper()
	p.tell("Sync")
	errno := p.l.Sync()
	p.holds(0, errno, 0, p.r.sync())
	return errno
}

func (p *pair) trim(to, keep int) api.Errno {
	p.t.Helper()
	p.tell("Trim %d, %d", to, keep)
	errno := p.l.Trim(to, keep)
	p.holds(0, errno, 0, p.r.trim(to, keep))
	return errno
}

func (p *pair) arm(n int) {
	p.tell("Arm %d", n)
	p.d.Arm(n)
	p.w.armed, p.w.more = n >= 0, n
	p.w.done = nil
}

// wake brings the power back; the log that was open is used no more.
func (p *pair) wake(keep int) {
	p.tell("Wake %d", keep)
	p.d.Wake(keep)
	p.w.wake(keep)
	p.l, p.r = nil, nil
}

// get holds a payload against what it must be, and spoils it: none of it may be kept.
func (p *pair) get(n int) {
	p.t.Helper()
	want, wantErrno := p.r.get(n)
	b, errno := p.l.Get(n)
	if string(b) != want || errno != wantErrno {
		p.t.Fatalf("Get %d: %.40x, %d, not %.40x, %d, behind %v", n, b, errno, want, wantErrno, p.script)
	}
	spoil(b)
}

// look holds all that the device and the log tell against what it must be, twice.
func (p *pair) look() {
	p.t.Helper()
	p.lookDisk()
	if p.l == nil {
		return
	}
	for range 2 {
		p.is(p.r.first, p.r.next(), p.r.safe, len(p.r.rows))
		for n := p.r.first - 2; n < min(p.r.next(), p.r.first+100)+2; n++ {
			p.get(n)
		}
		for _, n := range []int{least, least + 1, -1 << 32, -1, 0, 1, p.r.safe - 1, p.r.safe, p.r.next() - 1, p.r.next(), p.r.next() + 1, 1 << 32, maxSeq - 1, maxSeq, maxSeq + 1, most - 1, most} {
			p.get(n)
		}
	}
	p.lookDisk()
}

// lookDisk holds what the device has against what it must have.
func (p *pair) lookDisk() {
	p.t.Helper()
	if names := p.d.Names(); !slices.Equal(names, p.w.names()) {
		p.t.Fatalf("files %q, not %q, behind %v", names, p.w.names(), p.script)
	}
	for name, c := range p.w.files {
		if b, errno := p.d.Read(name); string(b) != c.all() || errno != 0 {
			p.t.Fatalf("%s: %.40x of %d bytes, %d, not %.40x of %d bytes, behind %v", name, b, len(b), errno, c.all(), len(c.all()), p.script)
		}
	}
	if p.d.Down() != p.w.down {
		p.t.Fatalf("Down: %t, behind %v", p.d.Down(), p.script)
	}
}

// is holds what a log tells of itself against numbers.
func (p *pair) is(first, next, safe, segments int) {
	p.t.Helper()
	got := []int{p.l.First(), p.l.Next(), p.l.Safe(), p.l.Segments()}
	if want := []int{first, next, safe, segments}; !slices.Equal(got, want) {
		p.t.Fatalf("First, Next, Safe, Segments: %d, not %d, behind %v", got, want, p.script)
	}
}

// did holds the operations since the device was armed last against words.
func (p *pair) did(want ...string) {
	p.t.Helper()
	if !slices.Equal(p.w.done, want) {
		p.t.Fatalf("%q, not %q, behind %v", p.w.done, want, p.script)
	}
}

// roomy is bytes with others in the spare room behind their end; and all of them.
func roomy(b string) ([]byte, []byte) {
	whole := append([]byte(b), "spare room"...)
	return whole[: len(b) : len(b)+10], whole
}

// spoil puts other bytes over all that a list has, and over its spare room.
func spoil(b []byte) {
	b = b[:cap(b)]
	for i := range b {
		b[i] ^= 0x5A
	}
}

// row is so many bytes, of which those of different seeds differ.
func row(n, seed int) string {
	var b strings.Builder
	for i := range n {
		b.WriteByte(byte(i*7 + seed*31 + i>>8*3))
	}
	return b.String()
}
