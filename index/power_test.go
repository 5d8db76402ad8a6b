package index_test

import (
	"math/rand"
	"slices"
	"testing"

	"outstation/api"
)

// P16.1, P16.3: in which order the device is called; P16.5, P16.6: what is there behind a failure of the power.

// scene is a log with an index to which something was done, and a call in which the power fails then. The call's operations are told outright.
type scene struct {
	name string
	make func(t *testing.T) *pair
	call func(p *pair) api.Errno
	want []string
}

// laying is the log of the examples, which lasts, and its index; then files are laid, of which those ahead of the place fast are synced.
func laying(fast int, files ...string) func(t *testing.T) *pair {
	return func(t *testing.T) *pair {
		p := opened(t, example()...)
		p.syncs()
		for i := 0; i < len(files); i += 2 {
			p.lays(files[i], files[i+1])
			if i < fast {
				p.same(p.d.Sync(files[i]), p.r.d.Sync(files[i]))
			}
		}
		return p
	}
}

// saved is an index with so many entries that was saved; then one is added, and some are dropped, if the log is to be trimmed.
func saved(entries int, trim bool) func(t *testing.T) *pair {
	return func(t *testing.T) *pair {
		p := opened(t)
		for i := range entries {
			p.notes(i * 37 % 101)
		}
		p.syncs()
		p.answers(p.save(), api.OK)
		p.notes(50)
		if trim {
			p.trims(most, 1)
		}
		return p
	}
}

func scenes() []scene {
	old := fileOf([]entry{{1, 1}})
	drops := []string{"append idx.new 54", "sync idx.new", "rename idx.new idx"}
	return []scene{
		{"Open", laying(0), (*pair).open, nil},
		{"Open with an old file", laying(2, "idx", old), (*pair).open, nil},
		{"Open with a new file", laying(2, "idx.new", old), (*pair).open, []string{"remove idx.new"}},
		{"Open with a new file that does not last", laying(2, "idx", old, "idx.new", old[:9]), (*pair).open, []string{"remove idx.new"}},
		{"Open with an empty new file", laying(0, "idx.new", ""), (*pair).open, []string{"remove idx.new"}},
		{"Open behind a Save", saved(70, false), (*pair).open, nil},

		{"Save", laying(0), (*pair).save, drops},
		{"Save over an old file", laying(2, "idx", old), (*pair).save, drops},
		{"Save over one that does not last", laying(0, "idx", row(300, 1)), (*pair).save, drops},
		{"Save over an empty one", laying(2, "idx", ""), (*pair).save, drops},
		{"Save over a new file", laying(2, "idx.new", old), (*pair).save, append([]string{"remove idx.new"}, drops...)},
		{"Save over both", laying(2, "idx", old, "idx.new", row(300, 1)), (*pair).save, append([]string{"remove idx.new"}, drops...)},
		{"Save over both, which last", laying(4, "idx", old, "idx.new", old), (*pair).save, append([]string{"remove idx.new"}, drops...)},
		{"Save of no entry", func(t *testing.T) *pair { return opened(t) }, (*pair).save, []string{"append idx.new 0", "sync idx.new", "rename idx.new idx"}},
		{"Save of no entry over others", saved(0, false), (*pair).save, []string{"append idx.new 22", "sync idx.new", "rename idx.new idx"}},
		{"Save of one chunk", saved(63, false), (*pair).save, []string{"append idx.new 1030", "sync idx.new", "rename idx.new idx"}},
		{"Save of two chunks", saved(64, false), (*pair).save, []string{"append idx.new 1052", "sync idx.new", "rename idx.new idx"}},
		{"Save of many chunks", saved(129, false), (*pair).save, []string{"append idx.new 2098", "sync idx.new", "rename idx.new idx"}},
		{"Save behind a Trim", saved(83, true), (*pair).save, []string{"append idx.new 38", "sync idx.new", "rename idx.new idx"}},
		{"Save behind a Trim, twice", func(t *testing.T) *pair {
			p := saved(83, true)(t)
			p.save()
			p.notes(1, 2)
			return p
		}, (*pair).save, []string{"append idx.new 70", "sync idx.new", "rename idx.new idx"}},
	}
}

// keeps is how many bytes may be kept of what was not synced.
func keeps() []int { return []int{-1, 0, 1, 5, 6, 22, 37, 38, 53, 54, 1029, 1030, 2000, most} }

// read is the bytes of idx, or that there is none.
func (p *pair) read() (string, api.Errno) {
	b, errno := p.d.Read("idx")
	return string(b), errno
}

// The power fails ahead of each operation of each call: what is done by then lies on the device, ahead of the waking and behind it.
func TestThePowerFailsAheadOfEachOperation(t *testing.T) {
	for _, s := range scenes() {
		for k := range len(s.want) + 1 {
			for _, keep := range keeps() {
				p := s.make(t)
				p.arm(k)
				errno := s.call(p)
				if (errno == api.ErrDown) != (k < len(s.want)) || (errno == api.OK) != (k == len(s.want)) {
					t.Fatalf("%s: %d operations: %d", s.name, k, errno)
				}
				p.did(s.want[:k]...)
				p.look()
				p.dead()
				p.wake(keep)
				p.answers(p.open(), api.OK)
				p.look()
				p.again()
			}
		}
	}
}

// dead holds that the calls of an index without power that need some answer ErrDown, and change nothing.
func (p *pair) dead() {
	p.t.Helper()
	p.answers(p.save(), api.ErrDown)
	p.look()
	p.answers(p.open(), api.ErrDown)
	p.look()
}

// again opens an index once more, also behind a failure that keeps nothing: it must tell the same, if the log does, and go on.
func (p *pair) again() {
	p.t.Helper()
	p.syncs()
	l := inOrder(p.r.has)
	for range 2 {
		p.fails()
		p.wake(0)
		p.answers(p.open(), api.OK)
		if !slices.Equal(inOrder(p.r.has), l) {
			p.t.Fatalf("opened once more it is another one, behind %v", p.script)
		}
		p.look()
		p.answers(p.open(), api.OK)
		p.look()
	}
	p.notes(7)
	p.answers(p.save(), api.OK)
	p.file("idx", fileOf(p.r.has))
	p.look()
}

// Behind a Save that the power has failed in idx is what it was, or what the Save makes it: told without the second reading.
func TestTheFileIsOldOrNew(t *testing.T) {
	for _, trim := range []bool{false, true} {
		for more := range 5 {
			for _, keep := range keeps() {
				p := saved(83, trim)(t)
				old, _ := p.read()
				has := p.r.has
				if trim {
					has = []entry{{82 * 37 % 101, 82}, {50, 83}}
				}
				now := fileOf(has)
				p.arm(more)
				errno := p.save()
				want := old
				if more >= 3 {
					want = now
				}
				if (errno == api.OK) != (more >= 3) || len(old) == len(now) {
					t.Fatal(errno, len(old), len(now))
				}
				p.file("idx", want)
				p.wake(keep)
				p.file("idx", want)
			}
		}
	}
}

// A Save under which the power has failed has dropped what it is to drop, but one ahead of which it had failed has not.
func TestWhatIsDroppedWhereThePowerFails(t *testing.T) {
	for more := range 3 {
		p := saved(83, true)(t)
		p.arm(more)
		p.answers(p.save(), api.ErrDown)
		if p.x.Len() != 2 {
			t.Error(more, p.x.Len())
		}
		p.look()
	}
	p := saved(83, true)(t)
	p.fails()
	p.answers(p.save(), api.ErrDown)
	if p.x.Len() != 84 {
		t.Error(p.x.Len())
	}
	p.look()
}

// What was saved lasts, whatever is kept.
func TestWhatWasSavedLasts(t *testing.T) {
	for _, keep := range keeps() {
		p := saved(100, false)(t)
		for range 3 {
			p.notes(8, 6)
			p.syncs()
			p.answers(p.save(), api.OK)
			now, _ := p.read()
			p.fails()
			p.wake(keep)
			p.file("idx", now)
			p.noFile("idx.new")
			p.answers(p.open(), api.OK)
			p.file("idx", now)
			p.look()
		}
	}
}

// The power fails amid Open, again and again: nothing is opened, and nothing has changed.
func TestThePowerFailsAmidOpen(t *testing.T) {
	for _, idx := range files()[:8] {
		for _, keep := range keeps() {
			p := newPair(t, room, map[string]string{"idx": idx, "idx.new": idx})
			p.logs(example()...)
			p.syncs()
			for range 3 {
				p.arm(0)
				for range 2 {
					p.answers(p.open(), api.ErrDown)
					p.file("idx.new", idx)
					p.alike()
				}
				p.wake(keep)
			}
			p.answers(p.open(), api.OK)
			p.tells(1, 0, 2)
			p.file("idx", idx)
			p.noFile("idx.new")
			p.look()
		}
	}
}

// P16.1 to P16.6 over scripts by chance

// walker is an index that is used by chance.
type walker struct {
	*pair
	chance *rand.Rand
}

func newWalker(t *testing.T, seed int64) *walker {
	chance := rand.New(rand.NewSource(seed))
	laid := map[string]string{}
	if chance.Intn(2) == 0 {
		laid["head"] = headOf(1+chance.Intn(50), chance.Intn(300))
	}
	for _, name := range []string{"idx", "idx.new"} {
		if chance.Intn(2) == 0 {
			laid[name] = files()[chance.Intn(len(files()))]
		}
	}
	p := newPair(t, 6000+chance.Intn(9000), laid)
	p.answers(p.open(), api.OK)
	return &walker{pair: p, chance: chance}
}

// time is a time of few, or any.
func (w *walker) time() int {
	if w.chance.Intn(10) == 0 {
		return w.chance.Intn(maxTime + 1)
	}
	return w.chance.Intn(12)
}

// note lays a payload behind the log's, and mostly adds it, if it is a record.
func (w *walker) note() api.Errno {
	w.t.Helper()
	if w.chance.Intn(4) == 0 {
		_, errno := w.appends(noRecords()[w.chance.Intn(len(noRecords()))])
		return errno
	}
	time := w.time()
	n, errno := w.appends(sample(time))
	if errno == api.OK && w.chance.Intn(20) > 0 {
		w.add(time, n)
	}
	return errno
}

// step does a call.
func (w *walker) step() api.Errno {
	w.t.Helper()
	switch w.chance.Intn(16) {
	case 0:
		return w.syncs()
	case 1:
		w.syncs()
		return w.trims(w.l.First()+w.chance.Intn(100), 1+w.chance.Intn(2))
	case 2, 3:
		return w.save()
	case 4:
		if w.chance.Intn(3) == 0 {
			return w.open()
		}
	case 5:
		w.add(w.time(), w.chance.Intn(w.l.Next()+3)-1)
		return api.OK
	}
	for range w.chance.Intn(8) {
		if errno := w.note(); errno != api.OK {
			return errno
		}
	}
	return w.note()
}

// fail lets the power fail in one of the next calls, and opens all again. What idx has is what it had, or what the Save would have made it.
func (w *walker) fail() {
	w.t.Helper()
	w.arm(w.chance.Intn(6))
	var was, may string
	for range 60 {
		was, _ = w.read()
		errno := w.step()
		may = fileOf(w.r.has)
		if errno == api.ErrDown {
			break
		}
	}
	w.alike()
	w.wake([]int{-1, 0, 1, 6, 54, 300, most}[w.chance.Intn(7)])
	if is, _ := w.read(); is != was && is != may {
		w.t.Fatalf("idx is neither what it was nor what it was to be, behind %v", w.script)
	}
	w.arm(w.chance.Intn(3))
	w.open()
	w.wake(0)
	w.answers(w.open(), api.OK)
}

func TestIndexesByChance(t *testing.T) {
	saves := 0
	for seed := range int64(40) {
		w := newWalker(t, seed)
		for range 6 {
			for range 30 {
				w.step()
				w.ranges(inOrder(w.r.has), least, most, least)
				if w.x.Len() != len(w.r.has) {
					t.Fatalf("Len %d, behind %v", w.x.Len(), w.script)
				}
			}
			w.look()
			w.fail()
			w.look()
			if b, _ := w.read(); len(b) > 1030 {
				saves++
			}
		}
	}
	if saves < 40 {
		t.Error("few files with more than one chunk:", saves)
	}
}

// R4

// What an index answers hangs on the calls alone: two that are used alike tell the same.
func TestAlike(t *testing.T) {
	for seed := range int64(10) {
		v, w := newWalker(t, seed), newWalker(t, seed)
		for range 150 {
			if a, b := v.step(), w.step(); a != b {
				t.Fatal(a, b)
			}
			a, _ := v.read()
			b, _ := w.read()
			if a != b || v.x.Len() != w.x.Len() || !slices.Equal(v.x.Range(2, 9, 3), w.x.Range(2, 9, 3)) {
				t.Fatal(a, b)
			}
		}
	}
}
