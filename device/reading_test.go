package device_test

import (
	"bytes"
	"fmt"
	"maps"
	"math"
	"slices"
	"strings"
	"testing"

	"outstation/api"
	"outstation/device"
)

const (
	least = math.MinInt
	most  = math.MaxInt
)

// content is a file's bytes: those that are synced, and those behind them.
type content struct{ fast, loose string }

func (c content) all() string { return c.fast + c.loose }

// reading is a device by the chapter's words, a second one beside the program's.
type reading struct {
	room  int
	files map[string]content
	down  bool
	armed bool
	more  int
}

func newReading(room int) *reading { return &reading{room: room, files: map[string]content{}} }

// call is a call of a device that may change it; which of the fields have a meaning hangs on what it does.
type call struct {
	does     string
	name, to string
	n        int
	b        string
}

func appends(name, b string) call       { return call{does: "Append", name: name, b: b} }
func syncs(name string) call            { return call{does: "Sync", name: name} }
func truncates(name string, n int) call { return call{does: "Truncate", name: name, n: n} }
func renames(from, to string) call      { return call{does: "Rename", name: from, to: to} }
func removes(name string) call          { return call{does: "Remove", name: name} }
func arms(n int) call                   { return call{does: "Arm", n: n} }
func wakes(keep int) call               { return call{does: "Wake", n: keep} }

func (c call) String() string {
	return fmt.Sprintf("%s(%.20q %.20q %d, %d bytes %.20q)", c.does, c.name, c.to, c.n, len(c.b), c.b)
}

// orders tells, by the chapter's words, what may be wrong with each call, and in which order that is told.
var orders = map[string][]api.Errno{
	"Append":   {api.ErrName, api.ErrDown, api.ErrFull},
	"Sync":     {api.ErrDown, api.ErrNone},
	"Truncate": {api.ErrDown, api.ErrNone, api.ErrRange},
	"Rename":   {api.ErrName, api.ErrDown, api.ErrNone},
	"Remove":   {api.ErrDown, api.ErrNone},
}

func (w *reading) used() int {
	n := 0
	for _, c := range w.files {
		n += len(c.all())
	}
	return n
}

func (w *reading) names() []string { return slices.Sorted(maps.Keys(w.files)) }

// wrong says whether an error applies to a call, be it the one that is told or not.
func (w *reading) wrong(c call, errno api.Errno) bool {
	file, there := w.files[c.name]
	switch errno {
	case api.ErrName:
		given := c.name
		if c.does == "Rename" {
			given = c.to
		}
		return len(given) == 0 || len(given) > 16
	case api.ErrDown:
		return w.down
	case api.ErrNone:
		return !there
	case api.ErrRange:
		return c.n < 0 || c.n > len(file.all())
	}
	return !there && len(w.files) >= 64 || w.used()+len(c.b) > w.room
}

// do does a call, and is what it answers.
func (w *reading) do(c call) api.Errno {
	switch c.does {
	case "Arm":
		w.armed, w.more = c.n >= 0, c.n
		return 0
	case "Wake":
		w.wake(c.n)
		return 0
	}
	for _, errno := range orders[c.does] {
		if w.wrong(c, errno) {
			return errno
		}
	}
	if w.armed && w.more == 0 {
		w.down = true
		return api.ErrDown
	}
	w.more--
	w.operation(c)
	return 0
}

func (w *reading) wake(keep int) {
	for name, c := range w.files {
		for i := 0; i < len(c.loose) && i < keep; i++ {
			c.fast += c.loose[i : i+1]
		}
		w.files[name] = content{fast: c.fast}
	}
	w.down, w.armed = false, false
}

func (w *reading) operation(c call) {
	file := w.files[c.name]
	switch c.does {
	case "Append":
		w.files[c.name] = content{file.fast, file.loose + c.b}
	case "Sync":
		w.files[c.name] = content{fast: file.all()}
	case "Truncate":
		if c.n < len(file.fast) {
			w.files[c.name] = content{fast: file.fast[:c.n]}
		} else {
			w.files[c.name] = content{file.fast, file.loose[:c.n-len(file.fast)]}
		}
	case "Rename":
		if c.to != c.name {
			w.files[c.to] = file
			delete(w.files, c.name)
		}
	case "Remove":
		delete(w.files, c.name)
	}
}

// roomy is bytes with others in the spare room behind their end.
func roomy(b string) []byte {
	return append([]byte(b), "spare room"...)[: len(b) : len(b)+10]
}

// spoil puts other bytes over all that a list has, and over its spare room.
func spoil(b []byte) {
	b = b[:cap(b)]
	for i := range b {
		b[i] = '!'
	}
}

// do does a call of a device. What it is given must be as it was, and is spoilt then: none of it may be kept.
func do(t *testing.T, d *device.Device, c call) api.Errno {
	t.Helper()
	switch c.does {
	case "Append":
		given := roomy(c.b)
		kept := bytes.Clone(given[:cap(given)])
		errno := d.Append(c.name, given)
		if !bytes.Equal(given[:cap(given)], kept) {
			t.Fatalf("%v has changed what it was given, or what lies behind", c)
		}
		spoil(given)
		return errno
	case "Sync":
		return d.Sync(c.name)
	case "Truncate":
		return d.Truncate(c.name, c.n)
	case "Rename":
		return d.Rename(c.name, c.to)
	case "Remove":
		return d.Remove(c.name)
	case "Arm":
		d.Arm(c.n)
	case "Wake":
		d.Wake(c.n)
	default:
		t.Fatal("no call", c)
	}
	return 0
}

// pair is a device and what it must be, to which the same is done.
type pair struct {
	t      *testing.T
	d      *device.Device
	w      *reading
	script []call
}

// newPair is a new device, and what it must be, to which some calls were done.
func newPair(t *testing.T, room int, script ...call) *pair {
	t.Helper()
	d, errno := device.New(room)
	if d == nil || errno != api.OK {
		t.Fatalf("New(%d): %v, %d", room, d, errno)
	}
	p := &pair{t: t, d: d, w: newReading(room)}
	for _, c := range script {
		p.do(c)
	}
	return p
}

// do does a call, holds what it answers against the chapter's words, and tells it.
func (p *pair) do(c call) api.Errno {
	p.t.Helper()
	p.script = append(p.script, c)
	want := p.w.do(c)
	if errno := do(p.t, p.d, c); errno != want {
		p.t.Fatalf("%d, not %d, behind %v", errno, want, p.script)
	}
	return want
}

// look holds all that a device tells against the chapter's words; then it spoils that, and looks again: none of it may be kept.
func (p *pair) look() {
	p.t.Helper()
	for range 2 {
		names := p.d.Names()
		if !slices.Equal(names, p.w.names()) {
			p.t.Fatalf("Names: %.20q, not %.20q, behind %v", names, p.w.names(), p.script)
		}
		for i := range names[:cap(names)] {
			names[:cap(names)][i] = "!"
		}
		if used, free, want := p.d.Used(), p.d.Free(), p.w.used(); used != want || free != p.w.room-want || used > p.w.room {
			p.t.Fatalf("Used %d, Free %d, not %d of %d, behind %v", used, free, want, p.w.room, p.script)
		}
		if down := p.d.Down(); down != p.w.down {
			p.t.Fatalf("Down: %t, behind %v", down, p.script)
		}
		for name, c := range p.w.files {
			p.read(name, c.all(), api.OK)
		}
		for _, name := range []string{"", "no file", strings.Repeat("n", 17)} {
			p.read(name, "", api.ErrNone)
		}
	}
}

// read holds what Read answers against what it must, and spoils it.
func (p *pair) read(name, want string, wantErrno api.Errno) {
	p.t.Helper()
	b, errno := p.d.Read(name)
	if string(b) != want || errno != wantErrno {
		p.t.Fatalf("Read of %.20q: %.20q, %d, not %.20q, %d, behind %v", name, b, errno, want, wantErrno, p.script)
	}
	spoil(b)
}

// wants does a call that must answer what is told outright, and looks.
func (p *pair) wants(c call, want api.Errno) {
	p.t.Helper()
	if errno := p.do(c); errno != want {
		p.t.Fatalf("%d, not %d, behind %v", errno, want, p.script)
	}
	p.look()
}

// probe makes seen what a device keeps without telling it, by calls behind which it is another one: how many operations are done yet, and how many bytes of each file are synced.
func (p *pair) probe() {
	p.t.Helper()
	for range 4 {
		p.do(appends("probe", ""))
	}
	p.look()
	p.do(wakes(0))
	p.look()
	for range 4 {
		p.do(appends("probe", ""))
	}
	p.look()
}

// taken holds what Read answers of a file against bytes that are told outright.
func (p *pair) taken(name, want string) {
	p.t.Helper()
	if b, errno := p.d.Read(name); string(b) != want || errno != api.OK {
		p.t.Errorf("Read of %.20q: %q, %d, not %q, behind %v", name, b, errno, want, p.script)
	}
}
