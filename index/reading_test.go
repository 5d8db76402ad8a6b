package index_test

import (
	"cmp"
	"encoding/binary"
	"fmt"
	"maps"
	"math"
	"slices"
	"testing"

	"outstation/api"
	"outstation/chunk"
	"outstation/device"
	"outstation/index"
	"outstation/record"
	"outstation/segs"
)

const (
	least = math.MinInt
	most  = math.MaxInt

	maxTime = 1 << 40
	maxSeq  = 1 << 40

	room = 1 << 16
)

// entry is a record's Time and number.
type entry struct{ time, number int }

// inOrder is entries by their times, those of one time by their numbers.
func inOrder(l []entry) []entry {
	out := slices.Clone(l)
	slices.SortFunc(out, func(a, b entry) int {
		return cmp.Or(cmp.Compare(a.time, b.time), cmp.Compare(a.number, b.number))
	})
	return out
}

// fileOf is the bytes that the file of some entries must have.
func fileOf(l []entry) string {
	out := ""
	l = inOrder(l)
	for len(l) > 0 {
		n := min(64, len(l))
		var p []byte
		for _, e := range l[:n] {
			p = binary.BigEndian.AppendUint64(p, uint64(e.time))
			p = binary.BigEndian.AppendUint64(p, uint64(e.number))
		}
		c, _ := chunk.Put(p)
		out += string(c)
		l = l[n:]
	}
	return out
}

// reading is an index by the chapter's words, a second one beside the program's: its entries as they came, on a device of its own.
type reading struct {
	d   *device.Device
	l   *segs.Log
	has []entry
	did []string // the operations that the device was asked for, and has done
}

// operation notes what was done.
func (r *reading) operation(words string, errno api.Errno) api.Errno {
	if errno == 0 {
		r.did = append(r.did, words)
	}
	return errno
}

// clear removes idx.new, if the power is on and it is there.
func (r *reading) clear() api.Errno {
	if r.d.Down() {
		return api.ErrDown
	}
	if !slices.Contains(r.d.Names(), "idx.new") {
		return 0
	}
	return r.operation("remove idx.new", r.d.Remove("idx.new"))
}

// open takes the entries of all records.
func (r *reading) open() api.Errno {
	errno := r.clear()
	for n := r.l.First(); errno == 0 && n < r.l.Next(); n++ {
		b, _ := r.l.Get(n)
		if told, is := record.Get(b); is == 0 {
			r.has = append(r.has, entry{told.Time, n})
		}
	}
	return errno
}

func (r *reading) add(time, seq int) api.Errno {
	if time < 0 || time > maxTime || seq < 0 || seq > maxSeq {
		return api.ErrRange
	}
	for _, e := range r.has {
		if e.number >= seq {
			return api.ErrOrder
		}
	}
	r.has = append(r.has, entry{time, seq})
	return 0
}

func (r *reading) save() api.Errno {
	if r.d.Down() {
		return api.ErrDown
	}
	first := r.l.First()
	r.has = slices.DeleteFunc(r.has, func(e entry) bool { return e.number < first })
	if errno := r.clear(); errno != 0 {
		return errno
	}
	b := fileOf(r.has)
	if errno := r.operation(fmt.Sprint("append idx.new ", len(b)), r.d.Append("idx.new", []byte(b))); errno != 0 {
		return errno
	}
	if errno := r.operation("sync idx.new", r.d.Sync("idx.new")); errno != 0 {
		return errno
	}
	return r.operation("rename idx.new idx", r.d.Rename("idx.new", "idx"))
}

// between is the numbers, not below a floor, of entries that are in order, by their times.
func between(l []entry, from, to, floor int) []int {
	var out []int
	for _, e := range l {
		if e.time >= from && e.time < to && e.number >= floor {
			out = append(out, e.number)
		}
	}
	return out
}

// pair is an index of a log on a device, and what it must be on another device, to which the same is done. If no index is open x is nil.
type pair struct {
	t      *testing.T
	d      *device.Device
	l      *segs.Log
	x      *index.Index
	r      *reading // its device and log are there without an index, too
	script []string
}

// newPair is a device with files, synced all, and the log that it holds; no index is open.
func newPair(t *testing.T, room int, files map[string]string) *pair {
	t.Helper()
	p := &pair{t: t, r: &reading{}}
	p.d, p.r.d = newDevice(t, room), newDevice(t, room)
	for _, name := range slices.Sorted(maps.Keys(files)) {
		p.lays(name, files[name])
		p.d.Sync(name)
		p.r.d.Sync(name)
	}
	p.openLogs()
	return p
}

func newDevice(t *testing.T, room int) *device.Device {
	t.Helper()
	d, errno := device.New(room)
	if errno != 0 {
		t.Fatalf("device: %d", errno)
	}
	return d
}

func (p *pair) openLogs() {
	p.t.Helper()
	var errno, too api.Errno
	p.l, errno = segs.Open(p.d)
	p.r.l, too = segs.Open(p.r.d)
	if errno != 0 || too != 0 {
		p.t.Fatalf("log: %d, %d, behind %v", errno, too, p.script)
	}
}

func (p *pair) tell(words string, l ...any) { p.script = append(p.script, fmt.Sprintf(words, l...)) }

// same holds an answer against what it must be.
func (p *pair) same(got, want api.Errno) api.Errno {
	p.t.Helper()
	if got != want {
		p.t.Fatalf("%d, not %d, behind %v", got, want, p.script)
	}
	return got
}

// lays puts bytes behind a file's on the device itself, not synced.
func (p *pair) lays(name, b string) {
	p.t.Helper()
	p.tell("lays %s, %d bytes", name, len(b))
	p.same(p.d.Append(name, []byte(b)), 0)
	p.same(p.r.d.Append(name, []byte(b)), 0)
}

// appends puts a payload behind the log's.
func (p *pair) appends(b string) (int, api.Errno) {
	p.t.Helper()
	p.tell("log: Append of %d bytes", len(b))
	n, errno := p.l.Append([]byte(b))
	_, want := p.r.l.Append([]byte(b))
	return n, p.same(errno, want)
}

// logs puts payloads behind the log's, for which there must be room.
func (p *pair) logs(l ...string) {
	p.t.Helper()
	for _, b := range l {
		if _, errno := p.appends(b); errno != 0 {
			p.t.Fatalf("log: %d, behind %v", errno, p.script)
		}
	}
}

// notes puts samples of some times behind the log's payloads, and adds them to the index.
func (p *pair) notes(times ...int) {
	p.t.Helper()
	for _, time := range times {
		p.logs(sample(time))
		p.adds(time, p.l.Next()-1)
	}
}

func (p *pair) syncs() api.Errno {
	p.t.Helper()
	p.tell("log: Sync")
	return p.same(p.l.Sync(), p.r.l.Sync())
}

func (p *pair) trims(to, keep int) api.Errno {
	p.t.Helper()
	p.tell("log: Trim %d, %d", to, keep)
	return p.same(p.l.Trim(to, keep), p.r.l.Trim(to, keep))
}

// open opens the index.
func (p *pair) open() api.Errno {
	p.t.Helper()
	p.tell("Open")
	r := &reading{d: p.r.d, l: p.r.l, did: p.r.did}
	x, errno := index.Open(p.d, p.l)
	p.same(errno, r.open())
	if (x != nil) != (errno == 0) {
		p.t.Fatalf("an index beside %d: %t, behind %v", errno, x != nil, p.script)
	}
	if errno == 0 {
		p.x = x
		p.r = r
	}
	p.r.did = r.did
	return errno
}

func (p *pair) add(time, seq int) api.Errno {
	p.t.Helper()
	p.tell("Add %d, %d", time, seq)
	return p.same(p.x.Add(time, seq), p.r.add(time, seq))
}

// adds adds an entry that must be taken.
func (p *pair) adds(time, seq int) {
	p.t.Helper()
	p.answers(p.add(time, seq), api.OK)
}

func (p *pair) save() api.Errno {
	p.t.Helper()
	p.tell("Save")
	return p.same(p.x.Save(), p.r.save())
}

// arm lets the power fail behind so many operations.
func (p *pair) arm(n int) {
	p.tell("Arm %d", n)
	p.d.Arm(n)
	p.r.d.Arm(n)
	p.r.did = nil
}

// wake brings the power back, and opens the log; the index that was open is used no more.
func (p *pair) wake(keep int) {
	p.t.Helper()
	p.tell("Wake %d", keep)
	p.d.Wake(keep)
	p.r.d.Wake(keep)
	p.x = nil
	p.alike()
	p.openLogs()
	p.alike()
}

// fails lets the power fail now.
func (p *pair) fails() {
	p.t.Helper()
	p.arm(0)
	p.same(p.d.Append("probe", nil), api.ErrDown)
	p.same(p.r.d.Append("probe", nil), api.ErrDown)
}

// did holds the operations since the device was armed last against words. It must have been armed for just so many; the power has failed then.
func (p *pair) did(want ...string) {
	p.t.Helper()
	if !slices.Equal(p.r.did, want) {
		p.t.Fatalf("%q, not %q, behind %v", p.r.did, want, p.script)
	}
	p.tell("probe")
	p.same(p.d.Append("probe", nil), api.ErrDown)
	p.same(p.r.d.Append("probe", nil), api.ErrDown)
	p.alike()
}

// answers holds an answer against one that is told outright.
func (p *pair) answers(got, want api.Errno) {
	p.t.Helper()
	if got != want {
		p.t.Fatalf("%d, not %d, behind %v", got, want, p.script)
	}
}

// has holds the names of all files against words.
func (p *pair) has(names ...string) {
	p.t.Helper()
	if got := p.d.Names(); !slices.Equal(got, names) {
		p.t.Fatalf("files %q, not %q, behind %v", got, names, p.script)
	}
}

// file holds a file's bytes against what is told outright.
func (p *pair) file(name, want string) {
	p.t.Helper()
	if b, errno := p.d.Read(name); string(b) != want || errno != 0 {
		p.t.Fatalf("%s: %d bytes, %x, %d, not %d bytes, %x, behind %v", name, len(b), b, errno, len(want), want, p.script)
	}
}

// noFile holds that there is no such file.
func (p *pair) noFile(name string) {
	p.t.Helper()
	if b, errno := p.d.Read(name); errno != api.ErrNone {
		p.t.Fatalf("%s: %d bytes, %d, behind %v", name, len(b), errno, p.script)
	}
}

// tells holds what an index tells of all times against numbers that are told outright.
func (p *pair) tells(want ...int) {
	p.t.Helper()
	if got := p.x.Range(least, most, least); !slices.Equal(got, want) || p.x.Len() != len(want) {
		p.t.Fatalf("%d, %d, not %d, behind %v", got, p.x.Len(), want, p.script)
	}
}

// alike holds what the device and the log tell against what they must.
func (p *pair) alike() {
	p.t.Helper()
	if names := p.r.d.Names(); !slices.Equal(p.d.Names(), names) {
		p.t.Fatalf("files %q, not %q, behind %v", p.d.Names(), names, p.script)
	}
	for _, name := range p.r.d.Names() {
		want, _ := p.r.d.Read(name)
		p.file(name, string(want))
	}
	if p.d.Down() != p.r.d.Down() {
		p.t.Fatalf("Down: %t, behind %v", p.d.Down(), p.script)
	}
	got := []int{p.l.First(), p.l.Next(), p.l.Safe(), p.l.Segments()}
	if want := []int{p.r.l.First(), p.r.l.Next(), p.r.l.Safe(), p.r.l.Segments()}; !slices.Equal(got, want) {
		p.t.Fatalf("log: %d, not %d, behind %v", got, want, p.script)
	}
}

// look holds all that the device and the index tell against what they must, twice.
func (p *pair) look() {
	p.t.Helper()
	p.alike()
	if p.x == nil {
		return
	}
	times, numbers := p.edges()
	l := inOrder(p.r.has)
	for range 2 {
		if n := p.x.Len(); n != len(l) {
			p.t.Fatalf("Len: %d, not %d, behind %v", n, len(l), p.script)
		}
		p.ranges(l, least, most, least)
		for _, from := range times {
			for _, to := range times {
				for _, floor := range numbers {
					p.ranges(l, from, to, floor)
				}
			}
		}
	}
	p.alike()
}

// ranges holds a Range against what it must be, of entries in order, and spoils it: none of it may be kept.
func (p *pair) ranges(l []entry, from, to, floor int) {
	p.t.Helper()
	got := p.x.Range(from, to, floor)
	if want := between(l, from, to, floor); !slices.Equal(got, want) {
		p.t.Fatalf("Range %d, %d, %d: %d, not %d, behind %v", from, to, floor, got, want, p.script)
	}
	got = got[:cap(got)]
	for i := range got {
		got[i] ^= 0x5A
	}
}

// edges is times and numbers about those of some entries, and at the ends.
func (p *pair) edges() (times, numbers []int) {
	for _, e := range inOrder(p.r.has) {
		times = append(times, e.time)
		numbers = append(numbers, e.number)
	}
	return about(times), about(numbers)
}

// about is numbers about the first, the last and some one amid others, and the ends.
func about(l []int) []int {
	out := []int{least, 0, most}
	if len(l) > 0 {
		l = slices.Sorted(slices.Values(l))
		middle := l[len(l)/2]
		out = append(out, l[0], middle-1, middle, middle+1, l[len(l)-1], l[len(l)-1]+1)
	}
	slices.Sort(out)
	return slices.Compact(out)
}

// sample is the bytes of a sample of a time.
func sample(time int) string {
	return recordOf(api.Record{Kind: api.RSample, Time: time, Tag: "a", Value: time})
}

// samples is the bytes of samples of some times.
func samples(times ...int) []string {
	var out []string
	for _, time := range times {
		out = append(out, sample(time))
	}
	return out
}

// recordOf is a record's bytes.
func recordOf(r api.Record) string {
	b, errno := record.Put(r)
	if errno != 0 {
		panic(fmt.Sprint("record: ", errno))
	}
	return string(b)
}

// chunkOf is a payload's chunk.
func chunkOf(p string) string {
	c, _ := chunk.Put([]byte(p))
	return string(c)
}

// chunks is the chunks of some payloads, one behind the other.
func chunks(l ...string) string {
	out := ""
	for _, p := range l {
		out += chunkOf(p)
	}
	return out
}

// headOf is a head of a log.
func headOf(n, first int) string {
	return chunkOf(string(binary.BigEndian.AppendUint64(binary.BigEndian.AppendUint64(nil, uint64(n)), uint64(first))))
}
