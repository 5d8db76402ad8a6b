package segs_test

import (
	"math/rand"
	"slices"
	"testing"

	"outstation/api"
	"outstation/segs"
)

// P14.1 to P14.4: in which order the device is called; P14.5 and P14.6: what is told then, and what is there behind it.

// scene is a log to which something was done, and a call in which the power fails then. The call's operations are told outright.
type scene struct {
	name string
	make func(t *testing.T) *pair
	call func(p *pair) api.Errno
	want []string
}

func appending(b string) func(p *pair) api.Errno {
	return func(p *pair) api.Errno {
		_, errno := p.append(b)
		return errno
	}
}

func trimming(to, keep int) func(p *pair) api.Errno {
	return func(p *pair) api.Errno { return p.trim(to, keep) }
}

// on is files, and a log that was opened on them, to which some payloads were appended; those ahead of the place safe were synced.
func on(files map[string]string, safe int, payloads ...string) func(t *testing.T) *pair {
	return func(t *testing.T) *pair {
		p := opened(t, room, files)
		for i, b := range payloads {
			if i == safe {
				p.sync()
			}
			p.append(b)
		}
		return p
	}
}

// lying is files that are synced, and bytes behind them that are not; no log is open.
func lying(files map[string]string, loose ...string) func(t *testing.T) *pair {
	return func(t *testing.T) *pair {
		p := newPair(t, room, files)
		for i := 0; i < len(loose); i += 2 {
			p.lays(loose[i], loose[i+1])
		}
		return p
	}
}

func scenes() []scene {
	cut := []string{"first", row(1010, 1), row(1018, 2), "", "last"}
	return []scene{
		{"Open of nothing", lying(nil), (*pair).open, nil},
		{"Open of a log", lying(three()), (*pair).open, []string{"sync log-5", "sync log-6", "sync log-7"}},
		{"Open with a new head", lying(three(), "head.new", headOf(6, 12)[:15]), (*pair).open, []string{"remove head.new", "sync log-5", "sync log-6", "sync log-7"}},
		{"Open of bytes that do not last", lying(and(three(), "log-2", "x"), "log-7", chunks("a", "b")+"left", "log-8", "", "log-9", chunks("c")), (*pair).open,
			[]string{"sync log-5", "sync log-6", "truncate log-7 30", "sync log-7", "remove log-2", "remove log-8", "remove log-9"}},
		{"Open of a new segment that does not last", lying(and(three(), "log-2", chunks("z")), "log-8", chunks("abc", "d")+"left"), (*pair).open,
			[]string{"sync log-5", "sync log-6", "sync log-7", "truncate log-8 16", "sync log-8", "remove log-2"}},
		{"Open behind a Trim", lying(map[string]string{"head": headOf(3, 2), "log-1": chunks(row(1018, 1)), "log-2": chunks(row(1018, 2)), "log-3": chunks("a")}, "log-3", chunks("b")), (*pair).open,
			[]string{"sync log-3", "remove log-1", "remove log-2"}},

		{"Append to a new log", on(nil, 0), appending("a"), []string{"append log-1 7"}},
		{"Append to a segment", on(three(), 1, "x", "y"), appending(row(1024, 1)), []string{"append log-7 1030"}},
		{"Append to a new segment", on(nil, 1, "x", row(1024, 1)), appending(row(200, 1)), []string{"sync log-1", "append log-2 206"}},
		{"Append to a third segment", on(nil, 0, "", row(1024, 1), row(1018, 2)), appending("z"), []string{"sync log-2", "append log-3 7"}},
		{"Append to a new segment, where all lasts", func(t *testing.T) *pair {
			p := five(t, room)
			p.sync()
			return p
		}, appending("z"), []string{"append log-14 7"}},
		{"Sync", on(three(), 2, "x", "y", "z", row(300, 1)), (*pair).sync, []string{"sync log-7"}},
		{"Sync of a new log", on(nil, 0, "x", "y"), (*pair).sync, []string{"sync log-1"}},
		{"Trim", on(nil, 2, row(1018, 1), row(1018, 2), row(1018, 3), row(1018, 4), "a"), trimming(3, 1),
			[]string{"append head.new 22", "sync head.new", "rename head.new head", "remove log-1", "remove log-2", "remove log-3"}},
		{"Trim of a log with a head", on(map[string]string{"head": headOf(9, 10), "log-9": chunks(cut...)}, 0, "a", "b"), trimming(15, 1),
			[]string{"append head.new 22", "sync head.new", "rename head.new head", "remove log-9"}},
		{"Trim behind a Trim", func(t *testing.T) *pair {
			p := five(t, room)
			p.trim(101, 1)
			p.append("x")
			return p
		}, trimming(most, 2), []string{"append head.new 22", "sync head.new", "rename head.new head", "remove log-10", "remove log-11", "remove log-12"}},
		{"Trim with a new head there", func(t *testing.T) *pair {
			p := five(t, room)
			p.lays("head.new", headOf(10, 101)[:20])
			return p
		}, trimming(101, 1), []string{"remove head.new", "append head.new 22", "sync head.new", "rename head.new head", "remove log-9"}},
	}
}

// keeps is how many bytes may be kept of what was not synced.
func keeps() []int { return []int{-1, 0, 1, 5, 6, 7, 10, 16, 21, 22, 100, 1000, most} }

// dead holds that each call of a log without power answers ErrDown and changes nothing.
func (p *pair) dead() {
	p.t.Helper()
	if p.l != nil {
		for _, b := range []string{"", "b", row(1025, 1)} {
			if n, errno := p.append(b); n != 0 || errno != api.ErrDown {
				p.t.Fatalf("%d, %d, behind %v", n, errno, p.script)
			}
		}
		p.answers(p.sync(), api.ErrDown)
		p.answers(p.trim(most, 0), api.ErrDown)
		p.answers(p.trim(least, most), api.ErrDown)
		p.look()
	}
	l, r := p.l, p.r
	p.answers(p.open(), api.ErrDown)
	p.l, p.r = l, r
	p.look()
}

// The power fails ahead of each operation of each call: what is done by then lies on the device, and the log is told as it was.
func TestThePowerFailsAheadOfEachOperation(t *testing.T) {
	for _, s := range scenes() {
		for k := range len(s.want) + 1 {
			for _, keep := range keeps() {
				p := s.make(t)
				p.arm(k)
				errno := s.call(p)
				if (errno == api.ErrDown) != (k < len(s.want)) || (errno == api.OK) != (k == len(s.want)) {
					t.Fatalf("%s: %d operations: %d", s.name, k, errno)
				}
				p.did(s.want[:k]...)
				p.look()
				if errno == api.OK { // so that it fails behind the call
					p.d.Append("probe", nil)
					p.w.append("probe", "")
				}
				p.dead()
				p.wake(keep)
				p.lookDisk()
				p.answers(p.open(), api.OK)
				p.look()
				p.again()
			}
		}
	}
}

// again opens a log once more, also behind a failure that keeps nothing: it must be the same, and go on.
func (p *pair) again() {
	p.t.Helper()
	for range 2 {
		first, next, segments := p.l.First(), p.l.Next(), p.l.Segments()
		p.wake(0)
		p.answers(p.open(), api.OK)
		p.is(first, next, next, segments)
		p.look()
	}
	p.puts("on", p.l.Next())
	p.look()
}

// The power fails amid Open, each time behind so many operations, till that is enough, or the same few times.
func TestThePowerFailsAmidOpen(t *testing.T) {
	for _, s := range scenes() {
		for k := range len(s.want) + 1 {
			for j, keep := range keeps() {
				p := s.make(t)
				p.arm(k)
				s.call(p)
				p.wake(keep)
				for range 3 {
					p.failAmidOpen(j%4, keep)
				}
				for more := 0; p.failAmidOpen(more, keep); more++ {
				}
				p.answers(p.open(), api.OK)
				p.look()
				p.again()
			}
		}
	}
}

// failAmidOpen says whether the power has failed in an Open behind so many operations. It is on again then, and nothing is open.
func (p *pair) failAmidOpen(more, keep int) bool {
	p.t.Helper()
	p.arm(more)
	errno := p.open()
	p.look()
	if errno == api.ErrDown {
		p.dead()
	}
	p.wake(keep)
	p.lookDisk()
	return errno == api.ErrDown
}

// P14.6, P14.7

// laid is what a log tells: its payloads from First on, and below which number they last.
type laid struct {
	first, safe int
	payloads    []string
}

func (x laid) next() int { return x.first + len(x.payloads) }

// of is what a log tells.
func of(t *testing.T, l *segs.Log) laid {
	t.Helper()
	x := laid{first: l.First(), safe: l.Safe()}
	for n := l.First(); n < l.Next(); n++ {
		b, errno := l.Get(n)
		if errno != api.OK {
			t.Fatalf("Get %d: %d", n, errno)
		}
		x.payloads = append(x.payloads, string(b))
	}
	return x
}

// keeps holds that all payloads that a log and a later one have both are the same.
func (x laid) keeps(p *pair, later laid) {
	p.t.Helper()
	for n := max(x.first, later.first); n < min(x.next(), later.next()); n++ {
		if x.payloads[n-x.first] != later.payloads[n-later.first] {
			p.t.Fatalf("the payload %d is another one, behind %v", n, p.script)
		}
	}
}

// segments is with which number each segment of a log begins, by its files; each but the last one must be full.
func (p *pair) segments() []int {
	p.t.Helper()
	var out []int
	next := p.l.First()
	for i := range p.l.Segments() {
		b, _ := p.d.Read(fileOf(p.r.n + i))
		if len(b) < 1024 && i < p.l.Segments()-1 {
			p.t.Fatalf("the segment %d has %d bytes, behind %v", i, len(b), p.script)
		}
		l, left := payloadsOf(string(b))
		if left != "" {
			p.t.Fatalf("%d bytes are left in the segment %d, behind %v", len(left), i, p.script)
		}
		out = append(out, next)
		next += len(l)
	}
	if next != p.l.Next() {
		p.t.Fatalf("the files have the payloads up to %d, not %d, behind %v", next, p.l.Next(), p.script)
	}
	return out
}

// trimmed is the number that a log begins with behind a Trim: that of the last segment that may be the first.
func (p *pair) trimmed(to, keep int) int {
	begins := p.segments()
	out := p.l.First()
	for i, begin := range begins {
		if i > 0 && begin <= to && begin <= p.l.Safe() && len(begins)-i >= max(keep, 1) {
			out = begin
		}
	}
	return out
}

// appendsOne appends a payload: it gets the next number, or nothing has changed but what lasts.
func (p *pair) appendsOne(b string) api.Errno {
	p.t.Helper()
	x := of(p.t, p.l)
	n, errno := p.append(b)
	y := of(p.t, p.l)
	x.keeps(p, y)
	want := x.next()
	if errno == api.OK {
		want++
	}
	if errno == api.OK && (n != x.next() || y.payloads[n-y.first] != b) || y.next() != want || y.first != x.first || y.safe < x.safe {
		p.t.Fatalf("%d, %d, Next %d, behind %v", n, errno, y.next(), p.script)
	}
	return errno
}

// syncsAll makes all payloads last.
func (p *pair) syncsAll() api.Errno {
	p.t.Helper()
	x := of(p.t, p.l)
	errno := p.sync()
	y := of(p.t, p.l)
	x.keeps(p, y)
	if y.first != x.first || y.next() != x.next() || errno == api.OK && y.safe != y.next() || errno != api.OK && y.safe != x.safe {
		p.t.Fatalf("%d, Next %d, Safe %d, behind %v", errno, y.next(), y.safe, p.script)
	}
	return errno
}

// trims drops as much as may be, or nothing.
func (p *pair) trims(to, keep, want int) api.Errno {
	p.t.Helper()
	x := of(p.t, p.l)
	errno := p.trim(to, keep)
	y := of(p.t, p.l)
	x.keeps(p, y)
	if errno != api.OK {
		want = x.first
	}
	if y.first != want || y.next() != x.next() || y.safe != x.safe {
		p.t.Fatalf("%d, First %d, not %d, behind %v", errno, y.first, want, p.script)
	}
	return errno
}

// sizes is how many bytes payloads have, so that segments are full soon, and at their edges.
func sizes() []int {
	return []int{0, 1, 5, 100, 400, 506, 1011, 1017, 1018, 1018, 1019, 1023, 1024, 1024}
}

// walker is a log that is used by chance.
type walker struct {
	*pair
	chance *rand.Rand
	may    int // where the log may begin, too, if a Trim was cut short
}

func newWalker(t *testing.T, seed int64) *walker {
	chance := rand.New(rand.NewSource(seed))
	files := map[string]string{}
	if chance.Intn(2) == 0 {
		files["head"] = headOf(uint64(1+chance.Intn(120)), uint64(chance.Intn(300)))
	}
	return &walker{pair: opened(t, 3000+chance.Intn(7000), files), chance: chance}
}

// step does a call.
func (w *walker) step() api.Errno {
	w.t.Helper()
	w.may = w.l.First()
	switch k := w.chance.Intn(10); {
	case k < 6:
		return w.appendsOne(row(sizes()[w.chance.Intn(len(sizes()))], w.chance.Intn(100)))
	case k < 8:
		return w.syncsAll()
	}
	to, keep := w.l.First()+w.chance.Intn(12)-2, w.chance.Intn(5)-1
	w.may = w.trimmed(to, keep)
	return w.trims(to, keep, w.may)
}

// fail lets the power fail in one of the next calls, and opens the log, in which the power may fail, too.
func (w *walker) fail() {
	w.t.Helper()
	w.arm(w.chance.Intn(8))
	for range 20 { // where there is no room left it may be that nothing is done: then it fails behind that
		if w.step() == api.ErrDown {
			break
		}
		w.segments()
	}
	w.look()
	x, may := of(w.t, w.l), w.may
	for tries := w.chance.Intn(4); ; tries-- {
		w.wake([]int{-1, 0, 1, 6, 7, 300, most, w.chance.Intn(1100)}[w.chance.Intn(8)])
		if tries == 0 {
			break
		}
		w.arm(w.chance.Intn(12))
		w.open()
	}
	w.answers(w.open(), api.OK)
	w.lasts(x, may)
	y := of(w.t, w.l)
	w.wake(0)
	w.answers(w.open(), api.OK)
	if z := of(w.t, w.l); !slices.Equal(y.payloads, z.payloads) || y.first != z.first || y.safe != z.safe {
		w.t.Fatalf("opened once more it is another one, behind %v", w.script)
	}
}

// lasts holds a log that was opened behind a failure of the power against what the one ahead told.
func (p *pair) lasts(x laid, may int) {
	p.t.Helper()
	y := of(p.t, p.l)
	x.keeps(p, y)
	if y.first != x.first && y.first != may {
		p.t.Fatalf("First %d, not %d or %d, behind %v", y.first, x.first, may, p.script)
	}
	if y.next() < x.safe || y.next() > x.next() || y.safe != y.next() {
		p.t.Fatalf("Next %d, Safe %d, where it was %d, %d, behind %v", y.next(), y.safe, x.next(), x.safe, p.script)
	}
	p.segments()
}

func TestLogsByChance(t *testing.T) {
	for seed := range int64(60) {
		w := newWalker(t, seed)
		for range 5 {
			for range 10 {
				w.step()
				w.segments()
			}
			w.look()
			w.fail()
			w.look()
		}
	}
}

// someCalls does some calls, up to the first one that answers ErrDown; it says whether one did, and where the log may begin then, too.
func (p *pair) someCalls() (int, bool) {
	p.t.Helper()
	for i := range 30 {
		may := p.l.First()
		var errno api.Errno
		switch {
		case i%10 == 9:
			may = p.trimmed(i/2, 1)
			errno = p.trims(i/2, 1, may)
		case i%7 == 5:
			errno = p.syncsAll()
		default:
			errno = p.appendsOne(row(sizes()[i*5%14], i))
		}
		if errno == api.ErrDown {
			return may, true
		}
	}
	return 0, false
}

// The same calls each time, cut short behind each number of operations.
func TestCallsThatAreCutShortAnywhere(t *testing.T) {
	for _, keep := range []int{0, 1, 7, 300, most} {
		more := 0
		for {
			p := fresh(t)
			p.arm(more)
			may, failed := p.someCalls()
			if !failed {
				break
			}
			x := of(t, p.l)
			p.wake(keep)
			p.answers(p.open(), api.OK)
			p.lasts(x, may)
			p.look()
			p.again()
			more++
		}
		if more < 40 {
			t.Error("only so many operations", more)
		}
	}
}

// R4

// What a log answers hangs on the calls alone: two that are used alike tell the same.
func TestAlike(t *testing.T) {
	for seed := range int64(5) {
		v, w := newWalker(t, seed), newWalker(t, seed)
		for range 60 {
			if a, b := v.step(), w.step(); a != b {
				t.Fatal(a, b)
			}
			a, b := of(t, v.l), of(t, w.l)
			if a.first != b.first || a.safe != b.safe || !slices.Equal(a.payloads, b.payloads) || !slices.Equal(v.d.Names(), w.d.Names()) {
				t.Fatal(a, b)
			}
		}
	}
}
