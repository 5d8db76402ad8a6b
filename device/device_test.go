package device_test

import (
	"bytes"
	"fmt"
	"math/rand"
	"slices"
	"strings"
	"testing"
	"unsafe"

	"outstation/api"
	"outstation/device"
)

// calls are the device's, as the chapter lists them; some of them may be promoted.
type calls interface {
	Append(name string, b []byte) api.Errno
	Sync(name string) api.Errno
	Truncate(name string, n int) api.Errno
	Rename(from, to string) api.Errno
	Remove(name string) api.Errno
	Read(name string) ([]byte, api.Errno)
	Names() []string
	Used() int
	Free() int
	Arm(n int)
	Down() bool
	Wake(keep int)
}

var _ calls = (*device.Device)(nil)

// sixteen is a name of as many bytes as one may have.
const sixteen = "Tank1.level-2_xy"

// names are names: of the least and of the most bytes, and of any bytes.
func names() []string {
	return []string{
		"a", "A", "1", " ", "\x00", "\xff", "/", "ä", "log-1", "head.new", "a b", "a\x00", "\x00a", "\x00\x00", "\xff\xfe\xfd", "\xed\xa0\x80", "a\n", sixteen,
		strings.Repeat("z", 15), strings.Repeat("\x00", 16), strings.Repeat("\xff", 16), strings.Repeat("ä", 8),
	}
}

// strays are texts that are no names.
func strays() []string {
	var out []string
	for _, n := range []int{0, 17, 18, 32, 255, 256, 257, 272, 1 << 16, 1<<16 + 1} {
		out = append(out, strings.Repeat("a", n), strings.Repeat("\x00", n))
	}
	return append(out, sixteen+"z", strings.Repeat("ä", 9), strings.Repeat("\xff", 17))
}

// ends are numbers at the ends of an int, and about a few.
func ends(about ...int) []int {
	out := []int{least, least + 1, -1 << 32, -257, -256, -2, -1, 0, 1, 2, 255, 256, 1 << 31, 1<<32 + 1, 1 << 62, most - 1, most}
	for _, n := range about {
		out = append(out, n-1, n, n+1)
	}
	return out
}

// failed is the calls that let the power of a device fail, and change nothing else of it.
func failed() []call { return []call{arms(0), appends("probe", "")} }

// then is a script, and other calls behind it.
func then(script []call, more ...call) []call { return append(slices.Clone(script), more...) }

// some is a script behind which a device with room 10 has three files: of a two bytes of three are synced, of b all, of c none.
func some() []call {
	return []call{appends("a", "12"), syncs("a"), appends("a", "3"), appends("b", "45"), syncs("b"), appends("c", "6")}
}

// P12.1

func TestNew(t *testing.T) {
	for _, room := range ends(0, 10, api.MaxRoom) {
		d, errno := device.New(room)
		if room < 0 || room > 1<<24 {
			if d != nil || errno != api.ErrRange {
				t.Errorf("of %d: %v, %d", room, d, errno)
			}
			continue
		}
		if d == nil || errno != api.OK {
			t.Fatalf("of %d: %v, %d", room, d, errno)
		}
		if d.Used() != 0 || d.Free() != room || len(d.Names()) != 0 || d.Down() {
			t.Errorf("of %d: used %d, free %d, %q, %t", room, d.Used(), d.Free(), d.Names(), d.Down())
		}
	}
}

func TestNewIsNotArmed(t *testing.T) {
	p := newPair(t, 10)
	for range 100 {
		p.wants(appends("a", ""), api.OK)
	}
}

func TestDevicesAreNotOne(t *testing.T) {
	p := newPair(t, 10, some()...)
	newPair(t, 10, then(failed(), wakes(0))...).look()
	q := newPair(t, 20, appends("a", "another"), syncs("a"), appends("z", "one"))
	q.look()
	p.look()
	p.do(removes("a"))
	p.do(arms(0))
	p.do(syncs("b"))
	p.look()
	q.look()
	q.probe()
	p.probe()
}

// P12.2

func TestAppendOfNames(t *testing.T) {
	for _, name := range names() {
		p := newPair(t, 10)
		p.wants(appends(name, "12"), api.OK)
		p.wants(appends(name, "3"), api.OK)
		p.taken(name, "123")
		p.probe()
	}
	p := newPair(t, 100)
	for i, name := range names() {
		p.wants(appends(name, string(rune('a'+i))), api.OK)
	}
	for i, name := range names() {
		p.taken(name, string(rune('a'+i)))
	}
}

func TestAppendOfNoNames(t *testing.T) {
	for _, name := range strays() {
		p := newPair(t, 10, some()...)
		p.wants(appends(name, "1"), api.ErrName)
		p.wants(appends(name, ""), api.ErrName)
		p.wants(appends(name, "a lot of bytes"), api.ErrName)
		p.probe()
	}
}

// Each byte may stand in a name, at its beginning and at its end, and in a file.
func TestAppendOfEachByte(t *testing.T) {
	for b := range 256 {
		one := string([]byte{byte(b)})
		p := newPair(t, 10)
		p.wants(appends(one, one), api.OK)
		p.wants(appends(strings.Repeat("a", 15)+one, one+"a"), api.OK)
		p.taken(one, one)
		p.taken(strings.Repeat("a", 15)+one, one+"a")
	}
}

func TestAppendStandsBehind(t *testing.T) {
	p := newPair(t, 10)
	p.wants(appends("a", "12"), api.OK)
	p.wants(appends("b", "3"), api.OK)
	p.wants(appends("a", ""), api.OK)
	p.wants(appends("a", "45"), api.OK)
	p.wants(appends("c", ""), api.OK)
	p.taken("a", "1245")
	p.taken("b", "3")
	p.taken("c", "")
	if d := p.d; d.Used() != 5 || d.Free() != 5 || !slices.Equal(d.Names(), []string{"a", "b", "c"}) {
		t.Error(d.Used(), d.Free(), d.Names())
	}
}

// Of nil there are no bytes, and of none no list.
func TestAppendOfNil(t *testing.T) {
	p := newPair(t, 0)
	for _, none := range [][]byte{nil, {}} {
		for _, name := range []string{"a", "b"} {
			if errno := p.d.Append(name, none); errno != api.OK {
				t.Errorf("%d", errno)
			}
			p.taken(name, "")
		}
	}
}

func TestAppendIsNotSynced(t *testing.T) {
	p := newPair(t, 10, appends("a", "12"), syncs("a"), appends("a", "34"), appends("b", "5"), appends("a", ""), wakes(0))
	p.look()
	p.taken("a", "12")
	p.taken("b", "")
}

func TestAppendOfAsManyBytesAsAreFree(t *testing.T) {
	for room := range 20 {
		for have := range room + 1 {
			free := room - have
			for _, name := range []string{"a", "b"} {
				for _, other := range []int{1, 2, 255, 256, 1 << 16} {
					p := newPair(t, room, appends("a", strings.Repeat("x", have)))
					p.wants(appends(name, strings.Repeat("y", free+other)), api.ErrFull)
					p.probe()
				}
				p := newPair(t, room, appends("a", strings.Repeat("x", have)))
				p.wants(appends(name, strings.Repeat("y", free)), api.OK)
				p.wants(appends(name, "z"), api.ErrFull)
				p.wants(appends("c", "z"), api.ErrFull)
				p.wants(appends(name, ""), api.OK)
				p.wants(appends("c", ""), api.OK)
				p.probe()
			}
		}
	}
}

func TestAppendUpToMaxRoom(t *testing.T) {
	whole := strings.Repeat("0123456789abcdef", 1<<20)
	p := newPair(t, 1<<24)
	p.wants(appends("a", whole+"x"), api.ErrFull)
	p.wants(appends("a", whole[1:]), api.OK)
	p.wants(appends("b", "xy"), api.ErrFull)
	p.wants(appends("b", "x"), api.OK)
	p.wants(appends("a", "x"), api.ErrFull)
	p.wants(removes("a"), api.OK)
	p.wants(appends("b", whole), api.ErrFull)
	p.wants(appends("b", whole[1:]), api.OK)
}

// filled is a device with room 100 and so many files, with a byte in each.
func filled(t *testing.T, files int) *pair {
	t.Helper()
	p := newPair(t, 100)
	for i := range files {
		if errno := p.do(appends(fmt.Sprint("file-", i), "x")); errno != api.OK {
			t.Fatalf("file %d: %d", i, errno)
		}
	}
	p.look()
	return p
}

func TestAppendUpToMaxFiles(t *testing.T) {
	for _, b := range []string{"", "x", strings.Repeat("x", 100)} {
		p := filled(t, 64)
		p.wants(appends("one more", b), api.ErrFull)
		p.wants(appends("file-64", b), api.ErrFull)
	}
	p := filled(t, 63)
	p.wants(appends("one more", "x"), api.OK)
	p.wants(appends("one more", "x"), api.OK)
	p.wants(appends("file-0", "x"), api.OK)
	p.wants(appends("file-62", ""), api.OK)
	p.wants(appends("two more", ""), api.ErrFull)
	p.wants(renames("file-0", "two more"), api.OK)
	p.wants(appends("file-0", ""), api.ErrFull)
	p.wants(renames("file-1", "file-2"), api.OK)
	p.wants(appends("file-0", ""), api.OK)
	p.wants(appends("file-1", ""), api.ErrFull)
	p.wants(removes("two more"), api.OK)
	p.wants(appends("two more", "y"), api.OK)
	p.wants(truncates("two more", 0), api.OK)
	p.wants(wakes(0), api.OK)
	p.wants(appends("file-1", ""), api.ErrFull)
}

// Empty files count as files do.
func TestAppendUpToMaxFilesWithoutRoom(t *testing.T) {
	p := newPair(t, 0)
	for i := range 64 {
		p.wants(appends(string([]byte{byte(i)}), ""), api.OK)
	}
	for i := range 64 {
		p.wants(appends(string([]byte{byte(i)}), ""), api.OK)
		p.wants(appends(string([]byte{byte(i)}), "x"), api.ErrFull)
	}
	for _, name := range []string{"a", "\x40", "\x00\x00"} {
		p.wants(appends(name, ""), api.ErrFull)
	}
}

// P12.3

func TestSync(t *testing.T) {
	for _, c := range []struct {
		script []call
		want   string
	}{
		{[]call{appends("a", "12"), syncs("a")}, "12"},
		{[]call{appends("a", "12"), syncs("a"), appends("a", "3")}, "12"},
		{[]call{appends("a", "12"), syncs("a"), appends("a", "3"), syncs("a")}, "123"},
		{[]call{appends("a", "12"), appends("b", "3"), syncs("b")}, ""},
		{[]call{appends("a", ""), syncs("a"), appends("a", "1")}, ""},
		{[]call{appends("a", "12"), syncs("a"), syncs("a")}, "12"},
	} {
		p := newPair(t, 10, c.script...)
		p.look()
		p.wants(wakes(0), api.OK)
		p.taken("a", c.want)
	}
}

func TestTruncate(t *testing.T) {
	for _, synced := range []string{"", "1", "12", "123"} {
		for _, loose := range []string{"", "4", "45", "456"} {
			all := synced + loose
			for _, n := range ends(0, len(synced), len(all)) {
				p := newPair(t, 10, appends("a", synced), syncs("a"), appends("a", loose), appends("b", "z"))
				if n < 0 || n > len(all) {
					p.wants(truncates("a", n), api.ErrRange)
					p.probe()
					continue
				}
				p.wants(truncates("a", n), api.OK)
				p.taken("a", all[:n])
				p.wants(appends("a", "new"), api.OK)
				p.taken("a", all[:n]+"new")
				p.probe()
				p.taken("a", synced[:min(n, len(synced))])
			}
		}
	}
}

// What was cut off is free again, and does not come back.
func TestTruncateIsFreeAgain(t *testing.T) {
	p := newPair(t, 10, appends("a", "0123456789"), syncs("a"), truncates("a", 4))
	p.wants(appends("b", "1234567"), api.ErrFull)
	p.wants(appends("b", "123456"), api.OK)
	p.wants(truncates("a", 5), api.ErrRange)
	p.wants(truncates("a", 0), api.OK)
	p.wants(appends("a", "xyz"), api.OK)
	p.taken("a", "xyz")
	p.wants(wakes(most), api.OK)
	p.taken("a", "xyz")
	p.taken("b", "123456")
}

func TestRename(t *testing.T) {
	for _, c := range []struct{ synced, loose string }{{"", ""}, {"12", ""}, {"", "34"}, {"12", "34"}} {
		for _, to := range append(names(), "b", "free") {
			for _, other := range []content{{"", ""}, {"67", ""}, {"", "8"}, {"67", "8"}} {
				p := newPair(t, 10, appends("x", c.synced), syncs("x"), appends("x", c.loose), appends("b", other.fast), syncs("b"), appends("b", other.loose))
				p.wants(renames("x", to), api.OK)
				p.taken(to, c.synced+c.loose)
				p.read("x", "", api.ErrNone)
				p.wants(renames("x", to), api.ErrNone)
				p.wants(appends(to, "9"), api.OK)
				p.probe()
				p.taken(to, c.synced)
			}
		}
	}
}

func TestRenameOver(t *testing.T) {
	p := newPair(t, 10, some()...)
	p.wants(renames("a", "b"), api.OK)
	p.taken("b", "123")
	if d := p.d; d.Used() != 4 || d.Free() != 6 || !slices.Equal(d.Names(), []string{"b", "c"}) {
		t.Error(d.Used(), d.Free(), d.Names())
	}
	p.wants(wakes(0), api.OK)
	p.taken("b", "12")
	p.wants(appends("a", ""), api.OK)
	p.taken("a", "")
}

func TestRenameToItself(t *testing.T) {
	for _, name := range []string{"a", "b", "c"} {
		p := newPair(t, 10, some()...)
		p.wants(renames(name, name), api.OK)
		p.wants(renames(name, name), api.OK)
		if names := p.d.Names(); !slices.Equal(names, []string{"a", "b", "c"}) || p.d.Used() != 6 {
			t.Error(names, p.d.Used())
		}
		p.probe()
	}
	p := newPair(t, 10, then(some(), arms(1), renames("a", "a"))...)
	p.wants(renames("a", "a"), api.ErrDown)
}

func TestRenameToNoName(t *testing.T) {
	for _, to := range strays() {
		p := newPair(t, 10, some()...)
		p.wants(renames("a", to), api.ErrName)
		p.wants(renames("none", to), api.ErrName)
		p.wants(renames(to, to), api.ErrName)
		p.wants(renames(to, "a"), api.ErrNone)
		p.probe()
	}
}

func TestRemove(t *testing.T) {
	p := newPair(t, 10, some()...)
	p.wants(removes("b"), api.OK)
	p.read("b", "", api.ErrNone)
	p.wants(removes("b"), api.ErrNone)
	p.wants(appends("x", "1234567"), api.ErrFull)
	p.wants(appends("x", "123456"), api.OK)
	p.wants(appends("b", ""), api.OK)
	p.taken("b", "")
	p.wants(removes("x"), api.OK)
	p.wants(removes("a"), api.OK)
	p.wants(removes("c"), api.OK)
	p.wants(removes("b"), api.OK)
	if d := p.d; d.Used() != 0 || d.Free() != 10 || len(d.Names()) != 0 {
		t.Error(d.Used(), d.Free(), d.Names())
	}
	p.probe()
}

// A file that is made anew has nothing of the one that was removed, or renamed, under its name: also not what was synced.
func TestFilesAnew(t *testing.T) {
	for _, gone := range []call{removes("a"), renames("a", "b"), renames("c", "a")} {
		p := newPair(t, 20, appends("a", "1234"), syncs("a"), appends("c", "5"), gone)
		p.wants(appends("a", "67"), api.OK)
		p.look()
		p.probe()
	}
}

// Of no file each call but Append tells ErrNone, whatever its name.
func TestNoFile(t *testing.T) {
	for _, name := range append(append(names(), strays()...), "none", "aa", "a\x00\x00") {
		for _, c := range []call{syncs(name), truncates(name, 0), truncates(name, 1), truncates(name, -1), renames(name, "b"), renames(name, name), removes(name)} {
			p := newPair(t, 10, appends("aaa", "1"))
			want := api.ErrNone
			if c.does == "Rename" && (len(c.to) == 0 || len(c.to) > 16) {
				want = api.ErrName
			}
			p.wants(c, want)
			p.read(name, "", api.ErrNone)
			p.probe()
		}
	}
}

// fault is a call that is wrong in all ways that are told, some of them by the power.
type fault struct {
	c    call
	errs []api.Errno
}

// faulty are calls to the device of some, with room 10, that are wrong for each set of reasons that there is.
func faulty() []fault {
	long, lots := sixteen+"z", "12345"
	return []fault{
		{appends("", "1"), []api.Errno{api.ErrName}}, {appends(long, "1"), []api.Errno{api.ErrName}},
		{appends("", lots), []api.Errno{api.ErrName, api.ErrFull}}, {appends(long, lots), []api.Errno{api.ErrName, api.ErrFull}},
		{appends("a", lots), []api.Errno{api.ErrFull}}, {appends("d", lots), []api.Errno{api.ErrFull}},
		{appends("a", "1"), nil}, {appends("d", ""), nil},
		{syncs("a"), nil}, {syncs("d"), []api.Errno{api.ErrNone}}, {syncs(""), []api.Errno{api.ErrNone}},
		{truncates("a", 2), nil}, {truncates("a", -1), []api.Errno{api.ErrRange}}, {truncates("a", 4), []api.Errno{api.ErrRange}},
		{truncates("d", 0), []api.Errno{api.ErrNone}}, {truncates("d", -1), []api.Errno{api.ErrNone, api.ErrRange}}, {truncates(long, 1), []api.Errno{api.ErrNone, api.ErrRange}},
		{renames("a", "d"), nil}, {renames("a", "b"), nil}, {renames("a", "a"), nil}, {renames("d", "a"), []api.Errno{api.ErrNone}},
		{renames("a", ""), []api.Errno{api.ErrName}}, {renames("b", long), []api.Errno{api.ErrName}}, {renames("", "a"), []api.Errno{api.ErrNone}},
		{renames("d", ""), []api.Errno{api.ErrName, api.ErrNone}}, {renames(long, long), []api.Errno{api.ErrName, api.ErrNone}},
		{removes("a"), nil}, {removes("d"), []api.Errno{api.ErrNone}}, {removes(long), []api.Errno{api.ErrNone}},
	}
}

// first is the error that is told of several, by the order that the chapter has for the call.
func first(does string, errs []api.Errno) api.Errno {
	for _, errno := range orders[does] {
		if slices.Contains(errs, errno) {
			return errno
		}
	}
	return api.OK
}

func TestTheFirstErrorIsTold(t *testing.T) {
	for _, f := range faulty() {
		p := newPair(t, 10, some()...)
		p.wants(f.c, first(f.c.does, f.errs))
		p.probe()

		p = newPair(t, 10, then(some(), failed()...)...)
		p.wants(f.c, first(f.c.does, append([]api.Errno{api.ErrDown}, f.errs...)))
		p.wants(wakes(most), api.OK)
		p.probe()
	}
}

// The same errors one by one, as the chapter's words have them.
func TestErrorsOfWords(t *testing.T) {
	for _, c := range []struct {
		c        call
		on, down api.Errno
	}{
		{appends("", "12345"), api.ErrName, api.ErrName},
		{appends(sixteen+"z", "12345"), api.ErrName, api.ErrName},
		{appends("a", "12345"), api.ErrFull, api.ErrDown},
		{appends("a", "1234"), api.OK, api.ErrDown},
		{syncs("a"), api.OK, api.ErrDown},
		{syncs("d"), api.ErrNone, api.ErrDown},
		{syncs(""), api.ErrNone, api.ErrDown},
		{truncates("a", 3), api.OK, api.ErrDown},
		{truncates("a", 4), api.ErrRange, api.ErrDown},
		{truncates("d", 4), api.ErrNone, api.ErrDown},
		{renames("a", "d"), api.OK, api.ErrDown},
		{renames("d", "a"), api.ErrNone, api.ErrDown},
		{renames("d", ""), api.ErrName, api.ErrName},
		{renames("a", sixteen+"z"), api.ErrName, api.ErrName},
		{removes("a"), api.OK, api.ErrDown},
		{removes("d"), api.ErrNone, api.ErrDown},
	} {
		newPair(t, 10, some()...).wants(c.c, c.on)
		newPair(t, 10, then(some(), failed()...)...).wants(c.c, c.down)
	}
}

// P12.4

func TestToldWithThePowerOff(t *testing.T) {
	for _, script := range [][]call{nil, failed()} {
		p := newPair(t, 10, then(some(), script...)...)
		p.look()
		p.taken("a", "123")
		p.taken("b", "45")
		p.taken("c", "6")
		p.read("d", "", api.ErrNone)
		d := p.d
		if !slices.Equal(d.Names(), []string{"a", "b", "c"}) || d.Used() != 6 || d.Free() != 4 || d.Down() != (script != nil) {
			t.Error(d.Names(), d.Used(), d.Free(), d.Down())
		}
	}
}

func TestNamesRise(t *testing.T) {
	rising := []string{"\x00", "\x00\x00", "\x00a", " ", "-", "1", "10", "2", "A", "B", "a", "a\x00", "aa", "ab", "a\xff", "b", "log-1", "log-10", "log-2", "z", "\x7f", "\x80", "ä", "\xff", "\xff\x00", "\xff\xff"}
	r := rand.New(rand.NewSource(1))
	for range 50 {
		p := newPair(t, 10)
		for _, i := range r.Perm(len(rising)) {
			p.do(appends(rising[i], ""))
		}
		p.look()
		if names := p.d.Names(); !slices.Equal(names, rising) {
			t.Fatalf("%q", names)
		}
	}
}

// Looking is no operation, and changes nothing.
func TestLookingIsNoOperation(t *testing.T) {
	for n := range 5 {
		p := newPair(t, 10, then(some(), arms(n))...)
		for range 20 {
			p.look()
		}
		for range n {
			p.wants(syncs("a"), api.OK)
		}
		p.wants(syncs("a"), api.ErrDown)
	}
}

// P12.5

func TestArm(t *testing.T) {
	for _, n := range []int{0, 1, 2, 3, 7, 64, 255, 256, 257, 1000, 65536} {
		p := newPair(t, 10, then(some(), arms(n))...)
		p.look()
		for range n {
			p.do(syncs("a"))
		}
		p.look()
		p.wants(removes("a"), api.ErrDown)
		p.wants(syncs("a"), api.ErrDown)
		if !p.d.Down() {
			t.Error("the power is on")
		}
	}
}

func TestArmOfManyOrNone(t *testing.T) {
	for _, n := range []int{least, least + 1, -1 << 32, -1000, -2, -1, 1 << 20, 1 << 32, 1 << 62, most - 1, most} {
		p := newPair(t, 10, then(some(), arms(n))...)
		for range 1000 {
			p.do(syncs("a"))
			p.do(appends("b", ""))
		}
		p.look()
		if p.d.Down() {
			t.Errorf("armed for %d", n)
		}
	}
}

// The last Arm holds, whatever was armed ahead of it.
func TestArmAgain(t *testing.T) {
	for _, before := range []int{least, -1, 0, 1, 2, 3, most} {
		for done := range 3 {
			for _, n := range []int{least, -1, 0, 1, 2, 3, most} {
				p := newPair(t, 10, then(some(), arms(before))...)
				for range done {
					p.do(syncs("a"))
				}
				p.do(arms(n))
				p.look()
				p.probe()
			}
		}
	}
}

// Arm does not bring the power back, and behind Wake nothing is armed.
func TestArmWithThePowerOff(t *testing.T) {
	for _, n := range []int{least, -1, 0, 1, 2, most} {
		p := newPair(t, 10, then(then(some(), failed()...), arms(n))...)
		for range 3 {
			p.wants(syncs("a"), api.ErrDown)
			p.wants(appends("", ""), api.ErrName)
		}
		p.wants(arms(n), api.OK)
		p.wants(syncs("a"), api.ErrDown)
		p.wants(wakes(0), api.OK)
		for range 5 {
			p.wants(syncs("a"), api.OK)
		}
	}
}

// The power fails by none but a call that would be an operation: what is refused tells its own error, however often.
func TestTheCallThatComesTooLate(t *testing.T) {
	for _, f := range faulty() {
		if f.errs == nil {
			p := newPair(t, 10, then(some(), arms(0))...)
			p.wants(f.c, api.ErrDown)
			p.wants(wakes(most), api.OK)
			p.probe()
			continue
		}
		for n := range 3 {
			p := newPair(t, 10, then(some(), arms(n))...)
			for range 4 {
				p.wants(f.c, first(f.c.does, f.errs))
			}
			if p.d.Down() {
				t.Error("a refused call lets the power fail")
			}
			for range n {
				p.wants(syncs("a"), api.OK)
				p.wants(f.c, first(f.c.does, f.errs))
			}
			p.wants(syncs("b"), api.ErrDown)
		}
	}
}

// Each of the five calls is an operation, and nothing else is.
func TestOperationsAreCounted(t *testing.T) {
	for _, c := range []call{appends("a", "1"), appends("a", ""), appends("d", ""), syncs("a"), syncs("b"), truncates("a", 3), truncates("a", 0), renames("a", "d"), renames("a", "b"), renames("a", "a"), removes("c")} {
		p := newPair(t, 10, then(some(), arms(1))...)
		p.wants(c, api.OK)
		if p.d.Down() {
			t.Error("the power fails by an operation that is done")
		}
		p.wants(appends("z", ""), api.ErrDown)
		p.wants(appends("z", ""), api.ErrDown)
	}
}

// The call that comes too late is not done: nothing of it is there, and nothing of it lasts.
func TestWhatComesTooLateIsNotDone(t *testing.T) {
	for _, f := range faulty() {
		for _, keep := range []int{-1, 0, 1, most} {
			p := newPair(t, 10, then(some(), arms(0))...)
			for range 2 {
				p.do(f.c)
				p.look()
			}
			p.wants(wakes(keep), api.OK)
			p.probe()
		}
	}
}

// P12.6

func TestWake(t *testing.T) {
	for _, synced := range []string{"", "1", "12", "123"} {
		for _, loose := range []string{"", "4", "45", "4567"} {
			for _, keep := range ends(0, len(loose)-1, len(loose), len(synced), 7) {
				for _, power := range [][]call{nil, {arms(0)}, {arms(1)}, {arms(-1)}, failed(), then(failed(), arms(5))} {
					p := newPair(t, 10, appends("a", synced), syncs("a"), appends("a", loose))
					for _, c := range power {
						p.do(c)
					}
					p.wants(wakes(keep), api.OK)
					p.taken("a", synced+loose[:min(max(keep, 0), len(loose))])
					if p.d.Down() {
						t.Error("the power is off")
					}
					for range 3 {
						p.wants(appends("a", ""), api.OK)
					}
					p.probe()
				}
			}
		}
	}
}

// Of each file so many bytes are kept, not of all together.
func TestWakeOfSeveralFiles(t *testing.T) {
	for keep := -1; keep <= 6; keep++ {
		p := newPair(t, 100)
		for i := range 5 {
			for j := range 5 {
				name := fmt.Sprint(i, j)
				p.do(appends(name, "abcd"[:i]))
				p.do(syncs(name))
				p.do(appends(name, "wxyz"[:j]))
			}
		}
		p.wants(wakes(keep), api.OK)
		for i := range 5 {
			for j := range 5 {
				p.taken(fmt.Sprint(i, j), "abcd"[:i]+"wxyz"[:min(max(keep, 0), j)])
			}
		}
		p.wants(wakes(0), api.OK)
	}
}

// What Wake has kept is synced, and a file of which nothing was is there without bytes.
func TestWhatWakeKeepsIsSynced(t *testing.T) {
	p := newPair(t, 10, then(some(), wakes(1), wakes(0))...)
	p.look()
	p.taken("a", "123")
	p.taken("c", "6")
	p = newPair(t, 10, then(some(), wakes(0), wakes(most))...)
	p.look()
	p.taken("a", "12")
	p.taken("c", "")
	p.wants(truncates("a", 1), api.OK)
	p.wants(appends("a", "x"), api.OK)
	p.wants(wakes(0), api.OK)
	p.taken("a", "1")
}

// What was not kept is free again, and does not come back.
func TestWakeIsFreeAgain(t *testing.T) {
	p := newPair(t, 10, appends("a", "12"), syncs("a"), appends("a", "345678"), appends("b", "90"), wakes(1))
	p.look()
	p.wants(appends("c", "1234567"), api.ErrFull)
	p.wants(appends("c", "123456"), api.OK)
	p.wants(truncates("a", 3), api.OK)
	p.wants(wakes(most), api.OK)
	p.taken("a", "123")
	p.taken("b", "9")
	p.taken("c", "123456")
}

// P12.2 to P12.6: each call from each state of a small device

// alphabet is calls of each kind, for a device with room 3 and the files a and b.
func alphabet() []call {
	out := []call{appends("", "x"), appends("a", ""), appends("a", "x"), appends("a", "yz"), appends("b", ""), appends("b", "x"), appends("b", "yz")}
	for _, name := range []string{"a", "b"} {
		out = append(out, syncs(name), removes(name), truncates(name, -1))
		for n := range 5 {
			out = append(out, truncates(name, n))
		}
	}
	out = append(out, renames("a", "b"), renames("b", "a"), renames("a", "a"), renames("b", ""))
	for n := -1; n <= 2; n++ {
		out = append(out, arms(n), wakes(n))
	}
	return append(out, wakes(most))
}

// state is all that a device keeps, by the chapter's words, as a text.
func (w *reading) state() string {
	out := fmt.Sprint(w.down, w.armed)
	if w.armed {
		out += fmt.Sprint(w.more)
	}
	for _, name := range w.names() {
		c := w.files[name]
		out += fmt.Sprintf(" %s:%s|%s", name, c.fast, c.loose)
	}
	return out
}

func TestEachCallFromEachState(t *testing.T) {
	seen := map[string]bool{}
	todo, tried := [][]call{nil}, 0
	for len(todo) > 0 {
		script := todo[0]
		todo = todo[1:]
		for _, c := range alphabet() {
			p := newPair(t, 3, then(script, c)...)
			p.look()
			if state := p.w.state(); !seen[state] {
				seen[state] = true
				todo = append(todo, p.script)
			}
			p.probe()
			tried++
		}
	}
	if len(seen) < 1000 {
		t.Errorf("%d states, %d calls", len(seen), tried)
	}
	t.Logf("%d states, %d calls", len(seen), tried)
}

// anyCall is a call out of all that there are, of few names and of numbers about those that matter.
func anyCall(r *rand.Rand, room int) call {
	l := []string{"a", "b", "c", "d", "e", "\x00", "\xff", sixteen, "", sixteen + "z"}
	name, to := l[r.Intn(len(l))], l[r.Intn(len(l))]
	switch r.Intn(20) {
	case 0, 1, 2, 3, 4, 5, 6:
		b := make([]byte, r.Intn(1+room/2))
		r.Read(b)
		return appends(name, string(b))
	case 7, 8, 9, 10:
		return syncs(name)
	case 11, 12:
		return truncates(name, r.Intn(room+3)-1)
	case 13, 14:
		return renames(name, to)
	case 15, 16:
		return removes(name)
	case 17:
		return arms(r.Intn(12) - 2)
	case 18:
		return wakes(r.Intn(room+3) - 1)
	}
	return wakes(ends()[r.Intn(len(ends()))])
}

func TestScripts(t *testing.T) {
	found := map[api.Errno]int{}
	for seed := range 600 {
		r := rand.New(rand.NewSource(int64(seed)))
		room := r.Intn(60)
		p := newPair(t, room)
		for range 150 {
			found[p.do(anyCall(r, room))]++
			p.look()
		}
		p.probe()
	}
	for _, errno := range []api.Errno{api.OK, api.ErrName, api.ErrDown, api.ErrFull, api.ErrNone, api.ErrRange} {
		if found[errno] < 500 {
			t.Errorf("%d calls answer %d", found[errno], errno)
		}
	}
}

// P12.7

// snapshot is the bytes of all files of a device.
func snapshot(d *device.Device) map[string]string {
	out := map[string]string{}
	for _, name := range d.Names() {
		b, _ := d.Read(name)
		out[name] = string(b)
	}
	return out
}

// lasting follows what of each file must be there behind any Wake, by the calls that answered OK alone.
func lasting(fast map[string]string, d *device.Device, c call) {
	switch c.does {
	case "Append":
		if _, there := fast[c.name]; !there {
			fast[c.name] = ""
		}
	case "Sync":
		b, _ := d.Read(c.name)
		fast[c.name] = string(b)
	case "Truncate":
		fast[c.name] = fast[c.name][:min(c.n, len(fast[c.name]))]
	case "Rename":
		b := fast[c.name]
		delete(fast, c.name)
		fast[c.to] = b
	case "Remove":
		delete(fast, c.name)
	}
}

// wantLasting wakes a device, twice, and holds each file that is there then against what was synced of it, and what it had.
func wantLasting(t *testing.T, d *device.Device, fast map[string]string, keep int) {
	t.Helper()
	before := snapshot(d)
	d.Wake(keep)
	behind := snapshot(d)
	if len(behind) != len(fast) || len(before) != len(fast) {
		t.Fatalf("%d files, then %d, not %d", len(before), len(behind), len(fast))
	}
	for name, synced := range fast {
		b, there := behind[name]
		if !there || !strings.HasPrefix(b, synced) || !strings.HasPrefix(before[name], b) {
			t.Fatalf("%q of %q, with %q synced", b, before[name], synced)
		}
	}
	for _, again := range []int{-1, 0, keep, most} {
		d.Wake(again)
		for name, b := range snapshot(d) {
			if b != behind[name] {
				t.Fatalf("%q, then %q behind a second Wake(%d)", behind[name], b, again)
			}
			fast[name] = b
		}
	}
}

func TestWhatWasSyncedLasts(t *testing.T) {
	for seed := range 400 {
		r := rand.New(rand.NewSource(int64(1000 + seed)))
		room := 1 + r.Intn(60)
		d, _ := device.New(room)
		fast := map[string]string{}
		for range 150 {
			c := anyCall(r, room)
			if c.does == "Wake" {
				wantLasting(t, d, fast, c.n)
			} else if do(t, d, c) == api.OK && c.does != "Arm" {
				lasting(fast, d, c)
			}
		}
		wantLasting(t, d, fast, 0)
	}
}

// P12.8

func TestJustSoManyOperationsAreDone(t *testing.T) {
	for seed := range 400 {
		r := rand.New(rand.NewSource(int64(2000 + seed)))
		room, n := 1+r.Intn(60), r.Intn(40)
		p := newPair(t, room, some()...)
		p.d.Arm(n)
		done := 0
		for range 300 {
			c := anyCall(r, room)
			if c.does == "Arm" || c.does == "Wake" {
				continue
			}
			before, down := snapshot(p.d), p.d.Down()
			errno := do(t, p.d, c)
			if errno == api.OK {
				done++
			} else if behind := snapshot(p.d); fmt.Sprint(behind) != fmt.Sprint(before) {
				t.Fatalf("%v answers %d and changes %q to %q", c, errno, before, behind)
			}
			if p.d.Down() != (down || errno == api.ErrDown) || p.d.Down() && done != n || done > n || p.d.Used() > room {
				t.Fatalf("%v answers %d: %d of %d operations, down %t, %d of %d bytes", c, errno, done, n, p.d.Down(), p.d.Used(), room)
			}
		}
		if !p.d.Down() || done != n {
			t.Errorf("%d of %d operations, down %t", done, n, p.d.Down())
		}
	}
}

// R3

// A piece of what was handed in, or out, shares no memory with what is kept.
func TestNothingIsShared(t *testing.T) {
	p := newPair(t, 20)
	given := roomy("1234")
	p.d.Append("a", given[:2])
	p.d.Append("a", given[2:])
	if !bytes.Equal(given[:cap(given)], []byte("1234spare room")) {
		t.Errorf("%q", given[:cap(given)])
	}
	spoil(given)
	p.taken("a", "1234")
	told, _ := p.d.Read("a")
	told = append(told[:2], '!', '!', '!')
	spoil(told)
	p.taken("a", "1234")
	p.d.Append("a", []byte("56"))
	again, _ := p.d.Read("a")
	p.d.Truncate("a", 3)
	p.d.Append("a", []byte("789"))
	if string(again) != "123456" {
		t.Errorf("%q", again)
	}
	p.d.Wake(most)
	p.d.Append("a", []byte("0"))
	p.taken("a", "1237890")
	p.d.Append("b", again)
	p.d.Truncate("b", 4)
	p.d.Append("b", []byte("x"))
	if string(again) != "123456" {
		t.Errorf("%q", again)
	}
}

func TestNamesAreNewMemory(t *testing.T) {
	d, _ := device.New(10)
	d.Append("a", nil)
	d.Append("b", nil)
	at := map[*byte]bool{}
	for range 3 {
		for _, name := range d.Names() {
			if at[unsafe.StringData(name)] {
				t.Errorf("%q is old memory", name)
			}
			at[unsafe.StringData(name)] = true
		}
	}
}

// A name that were kept as it was handed in would become another one with the bytes that it stands in.
func TestNamesAreNotKept(t *testing.T) {
	d, _ := device.New(10)
	b := []byte("abcdef")
	name := func(at int) string { return unsafe.String(&b[at], 2) }
	d.Append(name(0), nil)
	d.Append("x", nil)
	d.Rename("x", name(2))
	d.Append("y", nil)
	d.Append("ef", nil)
	d.Rename("y", name(4))
	for range 2 {
		if names := d.Names(); !slices.Equal(names, []string{"ab", "cd", "ef"}) {
			t.Errorf("%q", names)
		}
		spoil(b)
	}
}

// The chapter's examples

func TestExamples(t *testing.T) {
	p := newPair(t, 10)
	p.wants(appends("a", "\x01\x02"), api.OK)
	p.wants(syncs("a"), api.OK)
	p.wants(appends("a", "\x03\x04"), api.OK)
	p.wants(wakes(1), api.OK)
	p.taken("a", "\x01\x02\x03")
	p.wants(appends("b", "12345678"), api.ErrFull)
	p.wants(appends("b", "1234567"), api.OK)
	if names := p.d.Names(); !slices.Equal(names, []string{"a", "b"}) || p.d.Free() != 0 {
		t.Error(names, p.d.Free())
	}
	p.wants(renames("b", "a"), api.OK)
	if names := p.d.Names(); !slices.Equal(names, []string{"a"}) {
		t.Error(names)
	}
	p.read("b", "", api.ErrNone)
	p.wants(arms(1), api.OK)
	p.wants(syncs("x"), api.ErrNone)
	p.wants(syncs("a"), api.OK)
	p.wants(syncs("a"), api.ErrDown)
	if !p.d.Down() {
		t.Error("the power is on")
	}
	p.taken("a", "1234567")
	p.wants(appends(sixteen+"z", "1"), api.ErrName)
	p.wants(truncates("a", 8), api.ErrDown)
}
