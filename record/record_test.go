package record_test

import (
	"bytes"
	"math"
	"math/big"
	"math/rand"
	"slices"
	"strings"
	"testing"

	"outstation/api"
	"outstation/record"
	"outstation/tags"
)

const (
	least = math.MinInt
	most  = math.MaxInt
	top   = 1 << 40
)

// sixteen is a name of as many bytes as one may have.
const sixteen = "Tank1.level-2_xy"

// hold says, by the chapter's words, which fields of records of a Kind have a meaning beside Time, as they stand in the bytes: T the Tag, I the Id, V the Value.
func hold(kind int) string { return []string{1: "TV", 2: "TV", 3: "V", 4: "V", 5: "I", 6: "IV"}[kind] }

// has says whether a field of records of a Kind has a meaning.
func has(kind int, field string) bool { return strings.Contains(hold(kind), field) }

// ends are, by the chapter's words, the least and the greatest Value of records of a Kind that has one.
func ends(kind int) (int, int) {
	l := map[int][2]int{1: {-top, top}, 2: {1, 4}, 3: {1, top}, 4: {1, top}, 6: {0, 255}}[kind]
	return l[0], l[1]
}

// errorOf is, by the chapter's words, what is wrong with a record.
func errorOf(r api.Record) api.Errno {
	if r.Kind < 1 || r.Kind > 6 {
		return 28
	}
	low, high := ends(r.Kind)
	tag, id, value := has(r.Kind, "T"), has(r.Kind, "I"), has(r.Kind, "V")
	for _, x := range []struct {
		wrong bool
		errno api.Errno
	}{
		{!tag && len(r.Tag) > 0 || !id && r.Id != 0 || !value && r.Value != 0, 23},
		{r.Time < 0 || r.Time > top, 3},
		{tag && !tags.Name(r.Tag), 8},
		{value && (r.Value < low || r.Value > high), 3},
		{id && (r.Id < 1 || r.Id > top), 3},
	} {
		if x.wrong {
			return x.errno
		}
	}
	return 0
}

// eight is a number as eight bytes; one below 0 stands as itself and 2^64.
func eight(v int) string {
	n := big.NewInt(int64(v))
	if v < 0 {
		n.Add(n, new(big.Int).Lsh(big.NewInt(1), 64))
	}
	return string(n.FillBytes(make([]byte, 8)))
}

// bytesOf is, by the chapter's words, the bytes of a record with a Kind from 1 to 6, right or not.
func bytesOf(r api.Record) string {
	out := string([]byte{byte(r.Kind)}) + eight(r.Time)
	for _, field := range hold(r.Kind) {
		switch field {
		case 'T':
			out += string([]byte{byte(len(r.Tag))}) + r.Tag
		case 'I':
			out += eight(r.Id)
		case 'V':
			out += eight(r.Value)
		}
	}
	return out
}

// number is what eight bytes are, as a number from -2^63 on and below 2^63.
func number(b string) int {
	n := new(big.Int).SetBytes([]byte(b))
	if n.Bit(63) == 1 {
		n.Sub(n, new(big.Int).Lsh(big.NewInt(1), 64))
	}
	return int(n.Int64())
}

// recordOf is, by the chapter's words, the record that bytes are.
func recordOf(b string) (api.Record, api.Errno) {
	if b == "" {
		return api.Record{}, 1
	}
	if b[0] < 1 || b[0] > 6 {
		return api.Record{}, 28
	}
	r := api.Record{Kind: int(b[0])}
	rest := b[1:]
	for _, field := range "t" + hold(r.Kind) {
		n := 8
		if field == 'T' {
			if rest == "" {
				return api.Record{}, 1
			}
			n, rest = int(rest[0]), rest[1:]
		}
		if len(rest) < n {
			return api.Record{}, 1
		}
		switch field {
		case 't':
			r.Time = number(rest[:n])
		case 'T':
			r.Tag = rest[:n]
		case 'I':
			r.Id = number(rest[:n])
		case 'V':
			r.Value = number(rest[:n])
		}
		rest = rest[n:]
	}
	if rest != "" {
		return api.Record{}, 2
	}
	if errno := errorOf(r); errno != 0 {
		return api.Record{}, errno
	}
	return r, 0
}

// checkRecord holds what Check and Put, called twice, say of a record against the chapter's words, and tells what Check said.
func checkRecord(t *testing.T, r api.Record) api.Errno {
	t.Helper()
	want, bytes := errorOf(r), ""
	if want == 0 {
		bytes = bytesOf(r)
	}
	for range 2 {
		if errno := record.Check(r); errno != want {
			t.Fatalf("Check of %+v: %d, not %d", r, errno, want)
		}
		if b, errno := record.Put(r); string(b) != bytes || errno != want {
			t.Fatalf("Put of %+v: % x, %d, not % x, %d", r, b, errno, bytes, want)
		}
	}
	return want
}

// roomy is bytes with others in the spare room behind their end.
func roomy(b string) []byte {
	out := append([]byte(b), "\x01\x00\x09spare room and some more of it, and more"...)
	return out[:len(b)]
}

// checkBytes holds what Get, called twice, says of bytes against the chapter's words, and tells its error; what it takes, Put must make again.
func checkBytes(t *testing.T, b string) api.Errno {
	t.Helper()
	want, wantErrno := recordOf(b)
	given := roomy(b)
	kept := slices.Clone(given[:cap(given)])
	for range 2 {
		if r, errno := record.Get(given); r != want || errno != wantErrno {
			t.Fatalf("Get of % x: %+v, %d, not %+v, %d", b, r, errno, want, wantErrno)
		}
	}
	if !bytes.Equal(given[:cap(given)], kept) {
		t.Fatalf("Get of % x has changed what it was given, or what lies behind", b)
	}
	if wantErrno == 0 {
		if again, errno := record.Put(want); string(again) != b || errno != api.OK || len(b) > 34 {
			t.Fatalf("Put of what Get says of % x: % x, %d", b, again, errno)
		}
	}
	return wantErrno
}

// one is a right record of a Kind, no field of which is 0 that has a meaning.
func one(kind int) api.Record {
	r := api.Record{Kind: kind, Time: 258}
	if has(kind, "T") {
		r.Tag = "t"
	}
	if has(kind, "I") {
		r.Id = 7
	}
	if has(kind, "V") {
		r.Value = 3
	}
	return r
}

// full is a right record of a Kind that has as many bytes as one may have, each number as great as it may be.
func full(kind int) api.Record {
	r := one(kind)
	r.Time = top
	if has(kind, "T") {
		r.Tag = sixteen
	}
	if has(kind, "I") {
		r.Id = top
	}
	if has(kind, "V") {
		_, r.Value = ends(kind)
	}
	return r
}

// all are records of each Kind that there is, made by each of those functions.
func all(made ...func(kind int) api.Record) []api.Record {
	var out []api.Record
	for kind := 1; kind <= 6; kind++ {
		for _, f := range made {
			out = append(out, f(kind))
		}
	}
	return out
}

// kinds are numbers that are Kinds, and others.
func kinds() []int {
	return []int{least, least + 1, -256, -255, -6, -1, 0, 1, 2, 3, 4, 5, 6, 7, 8, 255, 256, 257, 262, 1<<32 + 1, most - 1, most}
}

// times are numbers at the ends of a Time, and others.
func times() []int {
	return []int{least, -top, -1, 0, 1, 258, top - 1, top, top + 1, most}
}

// values are numbers at the ends of each Kind's Value and Id, and others.
func values() []int {
	return []int{least, least + 1, -top - 1, -top, -top + 1, -257, -256, -1, 0, 1, 2, 3, 4, 5, 254, 255, 256, top - 1, top, top + 1, most - 1, most}
}

// names are names: of the least and of the most bytes, and with each sort of bytes.
func names() []string {
	return []string{"t", "A", "Z", "a", "z", "a0", "a9", "T_", "t.", "t-", "tag", sixteen, strings.Repeat("z", 15), strings.Repeat("A", 16)}
}

// strays are texts that are no names, each for a reason of its own.
func strays() []string {
	return []string{
		"", "1", "0", "9a", "_", ".", "-", "_a", ".a", "-a", " ", "a b", "a ", " a", "\x00", "a\x00", "a\n", "a/", "a:", "@", "[", "`", "{", "a@", "a[", "a`", "a{",
		"ä", "aä", "\xff", "a\xff", "a\x80", sixteen + "z", strings.Repeat("A", 17), strings.Repeat("a", 18), strings.Repeat("a", 255), strings.Repeat("a", 256), strings.Repeat("a", 257), strings.Repeat("a", 272), strings.Repeat(" ", 16),
	}
}

// P11.1

func TestCheckOfWords(t *testing.T) {
	for _, c := range []struct {
		r    api.Record
		want api.Errno
	}{
		{api.Record{}, api.ErrKind},
		{api.Record{Kind: api.RBoot, Value: 3, Id: 1}, api.ErrField},
		{api.Record{Kind: api.RSample, Tag: "1"}, api.ErrName},
		{api.Record{Kind: api.RSample, Time: -1, Tag: "1"}, api.ErrRange},
		{api.Record{Kind: api.RSample, Time: 258, Tag: "t", Value: -1}, api.OK},
		{api.Record{Kind: api.RSample, Tag: "t"}, api.OK},
		{api.Record{Kind: api.RSample, Tag: "t", Value: api.MaxValue}, api.OK},
		{api.Record{Kind: api.RSample, Tag: "t", Value: api.MaxValue + 1}, api.ErrRange},
		{api.Record{Kind: api.RSample, Tag: "t", Value: -api.MaxValue}, api.OK},
		{api.Record{Kind: api.RSample, Tag: "t", Value: -api.MaxValue - 1}, api.ErrRange},
		{api.Record{Kind: api.RSample, Tag: "t", Id: 1}, api.ErrField},
		{api.Record{Kind: api.RSample}, api.ErrName},
		{api.Record{Kind: api.RAlarm, Tag: "t"}, api.ErrRange},
		{api.Record{Kind: api.RAlarm, Tag: "t", Value: api.RaisedLow}, api.OK},
		{api.Record{Kind: api.RAlarm, Tag: "t", Value: api.RaisedHi}, api.OK},
		{api.Record{Kind: api.RAlarm, Tag: "t", Value: api.Cleared}, api.OK},
		{api.Record{Kind: api.RAlarm, Tag: "t", Value: api.Acked}, api.OK},
		{api.Record{Kind: api.RAlarm, Tag: "t", Value: api.Acked + 1}, api.ErrRange},
		{api.Record{Kind: api.RAlarm, Value: api.Acked}, api.ErrName},
		{api.Record{Kind: api.ROver}, api.ErrRange},
		{api.Record{Kind: api.ROver, Value: 1}, api.OK},
		{api.Record{Kind: api.ROver, Value: api.MaxValue}, api.OK},
		{api.Record{Kind: api.ROver, Value: api.MaxValue + 1}, api.ErrRange},
		{api.Record{Kind: api.ROver, Value: -1}, api.ErrRange},
		{api.Record{Kind: api.ROver, Value: 1, Tag: "t"}, api.ErrField},
		{api.Record{Kind: api.RBoot, Value: 3}, api.OK},
		{api.Record{Kind: api.RBoot}, api.ErrRange},
		{api.Record{Kind: api.RBoot, Value: api.MaxValue}, api.OK},
		{api.Record{Kind: api.RBoot, Value: api.MaxValue + 1}, api.ErrRange},
		{api.Record{Kind: api.RIntent}, api.ErrRange},
		{api.Record{Kind: api.RIntent, Id: 1}, api.OK},
		{api.Record{Kind: api.RIntent, Id: api.MaxSeq}, api.OK},
		{api.Record{Kind: api.RIntent, Id: api.MaxSeq + 1}, api.ErrRange},
		{api.Record{Kind: api.RIntent, Id: 1, Value: 1}, api.ErrField},
		{api.Record{Kind: api.RIntent, Id: -1}, api.ErrRange},
		{api.Record{Kind: api.RResult, Time: 1, Id: 7, Value: 102}, api.OK},
		{api.Record{Kind: api.RResult, Id: 7}, api.OK},
		{api.Record{Kind: api.RResult, Id: 7, Value: 255}, api.OK},
		{api.Record{Kind: api.RResult, Id: 7, Value: 256}, api.ErrRange},
		{api.Record{Kind: api.RResult, Id: 7, Value: -1}, api.ErrRange},
		{api.Record{Kind: api.RResult}, api.ErrRange},
		{api.Record{Kind: api.RResult, Id: 7, Tag: "t"}, api.ErrField},
		{api.Record{Kind: api.RBoot, Time: api.MaxTime, Value: 1}, api.OK},
		{api.Record{Kind: api.RBoot, Time: api.MaxTime + 1, Value: 1}, api.ErrRange},
	} {
		if errno := checkRecord(t, c.r); errno != c.want {
			t.Errorf("of %+v: %d, not %d", c.r, errno, c.want)
		}
	}
}

// What a Kind is hangs on Kind alone, whatever the fields beside it would suit.
func TestCheckOfEachKind(t *testing.T) {
	for _, r := range append(all(one, full), api.Record{}, api.Record{Time: -1, Tag: "1", Value: most, Id: least}) {
		for _, kind := range kinds() {
			r.Kind = kind
			if errno := checkRecord(t, r); (errno == api.ErrKind) != (kind < 1 || kind > 6) {
				t.Errorf("of %+v: %d", r, errno)
			}
		}
	}
}

// A field that has no meaning tells before all faults but the Kind's.
func TestCheckOfFieldsWithoutAMeaning(t *testing.T) {
	for _, r := range all(one, full, func(kind int) api.Record { return api.Record{Kind: kind, Time: -1} }) {
		if !has(r.Kind, "T") {
			for _, tag := range append(names(), strays()[1:]...) {
				stray := r
				stray.Tag = tag
				wantField(t, stray)
			}
		}
		for _, n := range values() {
			if n != 0 && !has(r.Kind, "I") {
				stray := r
				stray.Id = n
				wantField(t, stray)
			}
			if n != 0 && !has(r.Kind, "V") {
				stray := r
				stray.Value = n
				wantField(t, stray)
			}
		}
	}
}

// wantField holds a record with a field that has no meaning, and the same with other faults, against ErrField.
func wantField(t *testing.T, r api.Record) {
	t.Helper()
	for _, late := range []int{r.Time, -1, top + 1, least, most} {
		other := r
		other.Time = late
		if errno := checkRecord(t, other); errno != api.ErrField {
			t.Errorf("of %+v: %d", other, errno)
		}
		if has(r.Kind, "T") {
			other.Tag = "1"
		}
		if has(r.Kind, "I") {
			other.Id = 0
		}
		if has(r.Kind, "V") {
			other.Value = most
		}
		if errno := checkRecord(t, other); errno != api.ErrField {
			t.Errorf("of %+v: %d", other, errno)
		}
	}
}

func TestCheckOfTimes(t *testing.T) {
	for _, r := range all(one, full) {
		for _, r.Time = range times() {
			want := api.OK
			if r.Time < 0 || r.Time > top {
				want = api.ErrRange
			}
			if errno := checkRecord(t, r); errno != want {
				t.Errorf("of %+v: %d, not %d", r, errno, want)
			}
		}
	}
}

func TestCheckOfTags(t *testing.T) {
	for kind := 1; kind <= 2; kind++ {
		for _, r := range []api.Record{one(kind), full(kind)} {
			for _, r.Tag = range names() {
				if errno := checkRecord(t, r); errno != api.OK {
					t.Errorf("of %+v: %d", r, errno)
				}
			}
			for _, r.Tag = range strays() {
				if errno := checkRecord(t, r); errno != api.ErrName {
					t.Errorf("of %+v: %d", r, errno)
				}
			}
		}
	}
}

func TestCheckOfValues(t *testing.T) {
	for _, c := range []struct{ kind, low, high int }{
		{api.RSample, -top, top}, {api.RAlarm, 1, 4}, {api.ROver, 1, top}, {api.RBoot, 1, top}, {api.RResult, 0, 255},
	} {
		for _, r := range []api.Record{one(c.kind), full(c.kind)} {
			for _, r.Value = range append(values(), c.low-1, c.low, c.low+1, c.high-1, c.high, c.high+1) {
				want := api.OK
				if r.Value < c.low || r.Value > c.high {
					want = api.ErrRange
				}
				if errno := checkRecord(t, r); errno != want {
					t.Errorf("of %+v: %d, not %d", r, errno, want)
				}
			}
		}
	}
}

func TestCheckOfIds(t *testing.T) {
	for kind := api.RIntent; kind <= api.RResult; kind++ {
		for _, r := range []api.Record{one(kind), full(kind)} {
			for _, r.Id = range values() {
				want := api.OK
				if r.Id < 1 || r.Id > top {
					want = api.ErrRange
				}
				if errno := checkRecord(t, r); errno != want {
					t.Errorf("of %+v: %d, not %d", r, errno, want)
				}
			}
		}
	}
}

// fault is something that is made wrong with a record, and what is told of it.
type fault struct {
	errno api.Errno
	make  func(r *api.Record)
}

// faults are, in the order in which they are told, what may be wrong with a record of a Kind from 1 to 6; the Kind's own come first, since no other is told beside it.
func faults(kind int) []fault {
	out := []fault{{28, func(r *api.Record) { r.Kind = 7 }}, {28, func(r *api.Record) { r.Kind = 0 }}}
	if !has(kind, "T") {
		out = append(out, fault{23, func(r *api.Record) { r.Tag = "t" }})
	}
	if !has(kind, "I") {
		out = append(out, fault{23, func(r *api.Record) { r.Id = 1 }})
	}
	if !has(kind, "V") {
		out = append(out, fault{23, func(r *api.Record) { r.Value = 1 }})
	}
	out = append(out, fault{3, func(r *api.Record) { r.Time = -1 }}, fault{3, func(r *api.Record) { r.Time = top + 1 }})
	if has(kind, "T") {
		out = append(out, fault{8, func(r *api.Record) { r.Tag = "" }}, fault{8, func(r *api.Record) { r.Tag = sixteen + "z" }})
	}
	low, high := ends(kind)
	if has(kind, "V") {
		out = append(out, fault{3, func(r *api.Record) { r.Value = low - 1 }}, fault{3, func(r *api.Record) { r.Value = high + 1 }})
	}
	if has(kind, "I") {
		out = append(out, fault{3, func(r *api.Record) { r.Id = 0 }}, fault{3, func(r *api.Record) { r.Id = top + 1 }})
	}
	return out
}

// Each fault alone, each two and each set of them: the first one is told.
func TestTheFirstErrorOfCheckIsTold(t *testing.T) {
	for _, right := range all(one, full) {
		l := faults(right.Kind)
		for set := range 1 << len(l) {
			r, want := right, api.OK
			for i := range l {
				if set>>i&1 == 0 {
					continue
				}
				l[i].make(&r)
				if want == api.OK {
					want = l[i].errno
				}
			}
			if errno := checkRecord(t, r); errno != want {
				t.Errorf("of %+v: %d, not %d", r, errno, want)
			}
		}
	}
}

func TestCheckOfManyRecords(t *testing.T) {
	texts := []string{"", "t", sixteen, sixteen + "z", "1", "a b", strings.Repeat("a", 256)}
	found := map[api.Errno]int{}
	for _, kind := range kinds() {
		for _, at := range times() {
			for _, tag := range texts {
				for _, value := range values() {
					for _, id := range []int{least, -1, 0, 1, 7, top, top + 1, most} {
						found[checkRecord(t, api.Record{Kind: kind, Time: at, Tag: tag, Value: value, Id: id})]++
					}
				}
			}
		}
	}
	for _, errno := range []api.Errno{api.OK, api.ErrKind, api.ErrField, api.ErrRange, api.ErrName} {
		if found[errno] == 0 {
			t.Errorf("no record told %d", errno)
		}
	}
}

// P11.2

func TestPutOfWords(t *testing.T) {
	for _, c := range []struct {
		r    api.Record
		want string
	}{
		{api.Record{Kind: api.RSample, Time: 258, Tag: "t", Value: -1}, "\x01" + "\x00\x00\x00\x00\x00\x00\x01\x02" + "\x01t" + "\xff\xff\xff\xff\xff\xff\xff\xff"},
		{api.Record{Kind: api.RBoot, Value: 3}, "\x04" + "\x00\x00\x00\x00\x00\x00\x00\x00" + "\x00\x00\x00\x00\x00\x00\x00\x03"},
		{api.Record{Kind: api.RResult, Time: 1, Id: 7, Value: 102}, "\x06" + "\x00\x00\x00\x00\x00\x00\x00\x01" + "\x00\x00\x00\x00\x00\x00\x00\x07" + "\x00\x00\x00\x00\x00\x00\x00\x66"},
		{api.Record{Kind: api.RSample, Tag: "t"}, "\x01" + "\x00\x00\x00\x00\x00\x00\x00\x00" + "\x01t" + "\x00\x00\x00\x00\x00\x00\x00\x00"},
		{api.Record{Kind: api.RSample, Time: top, Tag: sixteen, Value: top}, "\x01" + "\x00\x00\x01\x00\x00\x00\x00\x00" + "\x10Tank1.level-2_xy" + "\x00\x00\x01\x00\x00\x00\x00\x00"},
		{api.Record{Kind: api.RSample, Time: top - 1, Tag: "level", Value: -top}, "\x01" + "\x00\x00\x00\xff\xff\xff\xff\xff" + "\x05level" + "\xff\xff\xff\x00\x00\x00\x00\x00"},
		{api.Record{Kind: api.RSample, Tag: "t", Value: -258}, "\x01" + "\x00\x00\x00\x00\x00\x00\x00\x00" + "\x01t" + "\xff\xff\xff\xff\xff\xff\xfe\xfe"},
		{api.Record{Kind: api.RAlarm, Time: 0x0102030405, Tag: "a.b", Value: 4}, "\x02" + "\x00\x00\x00\x01\x02\x03\x04\x05" + "\x03a.b" + "\x00\x00\x00\x00\x00\x00\x00\x04"},
		{api.Record{Kind: api.RAlarm, Tag: "t", Value: 1}, "\x02" + "\x00\x00\x00\x00\x00\x00\x00\x00" + "\x01t" + "\x00\x00\x00\x00\x00\x00\x00\x01"},
		{api.Record{Kind: api.ROver, Time: 9, Value: 0x0102030405}, "\x03" + "\x00\x00\x00\x00\x00\x00\x00\x09" + "\x00\x00\x00\x01\x02\x03\x04\x05"},
		{api.Record{Kind: api.ROver, Value: top}, "\x03" + "\x00\x00\x00\x00\x00\x00\x00\x00" + "\x00\x00\x01\x00\x00\x00\x00\x00"},
		{api.Record{Kind: api.RBoot, Time: top, Value: top}, "\x04" + "\x00\x00\x01\x00\x00\x00\x00\x00" + "\x00\x00\x01\x00\x00\x00\x00\x00"},
		{api.Record{Kind: api.RIntent, Time: 9, Id: 2}, "\x05" + "\x00\x00\x00\x00\x00\x00\x00\x09" + "\x00\x00\x00\x00\x00\x00\x00\x02"},
		{api.Record{Kind: api.RIntent, Id: top}, "\x05" + "\x00\x00\x00\x00\x00\x00\x00\x00" + "\x00\x00\x01\x00\x00\x00\x00\x00"},
		{api.Record{Kind: api.RResult, Id: top, Value: 255}, "\x06" + "\x00\x00\x00\x00\x00\x00\x00\x00" + "\x00\x00\x01\x00\x00\x00\x00\x00" + "\x00\x00\x00\x00\x00\x00\x00\xff"},
		{api.Record{Kind: api.RResult, Id: 1}, "\x06" + "\x00\x00\x00\x00\x00\x00\x00\x00" + "\x00\x00\x00\x00\x00\x00\x00\x01" + "\x00\x00\x00\x00\x00\x00\x00\x00"},
	} {
		if b, errno := record.Put(c.r); string(b) != c.want || errno != api.OK {
			t.Errorf("Put of %+v: % x, %d, not % x", c.r, b, errno, c.want)
		}
		if r, errno := record.Get([]byte(c.want)); r != c.r || errno != api.OK {
			t.Errorf("Get of % x: %+v, %d, not %+v", c.want, r, errno, c.r)
		}
		checkRecord(t, c.r)
		checkBytes(t, c.want)
	}
}

// rights are right records of each Kind: each number at its ends and between them, and each name.
func rights() []api.Record {
	r := rand.New(rand.NewSource(1))
	var out []api.Record
	for kind := 1; kind <= 6; kind++ {
		low, high := ends(kind)
		for _, at := range []int{0, 1, 255, 256, top - 1, top, r.Intn(top)} {
			for _, tag := range append(names(), strings.Repeat("t", 2), strings.Repeat("t", 8)) {
				for _, value := range []int{low, low + 1, (low + high) / 2, high - 1, high, low + r.Intn(high-low+1)} {
					for _, id := range []int{1, 2, 256, top - 1, top, 1 + r.Intn(top)} {
						x := api.Record{Kind: kind, Time: at, Tag: tag, Value: value, Id: id}
						if !has(kind, "T") {
							x.Tag = ""
						}
						if !has(kind, "V") {
							x.Value = 0
						}
						if !has(kind, "I") {
							x.Id = 0
						}
						out = append(out, x)
					}
				}
			}
		}
	}
	return out
}

func TestPutOfRightRecords(t *testing.T) {
	for _, r := range rights() {
		if errno := checkRecord(t, r); errno != api.OK {
			t.Errorf("of %+v: %d", r, errno)
		}
	}
}

// Beside an error there are no bytes.
func TestPutOfWrongRecords(t *testing.T) {
	for _, right := range all(one, full) {
		for _, f := range faults(right.Kind) {
			r := right
			f.make(&r)
			if b, errno := record.Put(r); len(b) != 0 || errno != f.errno {
				t.Errorf("Put of %+v: % x, %d, not %d", r, b, errno, f.errno)
			}
		}
	}
}

// P11.3

func TestGetOfWords(t *testing.T) {
	boot := "\x04" + eight(0)
	for _, c := range []struct {
		b    string
		want api.Errno
	}{
		{"", api.ErrShort},
		{"\x07", api.ErrKind},
		{"\x00", api.ErrKind},
		{"\xff", api.ErrKind},
		{"\x01", api.ErrShort},
		{boot + eight(3), api.OK},
		{boot + eight(3)[:7], api.ErrShort},
		{boot + eight(3) + "\x00", api.ErrLong},
		{boot + eight(0), api.ErrRange},
		{boot + eight(-1), api.ErrRange},
		{"\x07" + eight(0) + eight(3), api.ErrKind},
		{"\x03" + eight(0) + eight(3), api.OK},
		{"\x01" + eight(0) + "\x00" + eight(3), api.ErrName},
		{"\x01" + eight(0) + "\x01t" + eight(3), api.OK},
		{"\x01" + eight(0) + "\x011" + eight(3), api.ErrName},
		{"\x01" + eight(-1) + "\x011" + eight(3), api.ErrRange},
		{"\x01" + eight(0) + "\x02t" + eight(3), api.ErrShort},
		{"\x01" + eight(0) + "\x01tt" + eight(3), api.ErrLong},
		{"\x01" + eight(0) + "\x10" + sixteen + eight(3), api.OK},
		{"\x01" + eight(0) + "\x11" + sixteen + eight(3), api.ErrShort},
		{"\x01" + eight(0) + "\x11" + sixteen + "z" + eight(3), api.ErrName},
		{"\x01" + eight(0) + "\xff" + strings.Repeat("a", 255) + eight(3), api.ErrName},
		{"\x01" + eight(0) + "\xff" + strings.Repeat("a", 255) + eight(3)[:7], api.ErrShort},
		{"\x02" + eight(0) + "\x01t" + eight(5), api.ErrRange},
		{"\x05" + eight(0) + eight(1), api.OK},
		{"\x05" + eight(0) + eight(1) + eight(0), api.ErrLong},
		{"\x06" + eight(0) + eight(1), api.ErrShort},
		{"\x06" + eight(0) + eight(1) + eight(0), api.OK},
		{"\x06" + eight(0) + eight(0) + eight(0), api.ErrRange},
		{"\x06" + eight(0) + eight(1) + eight(256), api.ErrRange},
		{"\x06" + eight(top) + eight(1) + eight(255), api.OK},
		{"\x06" + eight(top+1) + eight(1) + eight(255), api.ErrRange},
	} {
		if errno := checkBytes(t, c.b); errno != c.want {
			t.Errorf("of % x: %d, not %d", c.b, errno, c.want)
		}
		if r, errno := record.Get([]byte(c.b)); errno != c.want || errno != api.OK && r != (api.Record{}) {
			t.Errorf("Get of % x: %+v, %d, not %d", c.b, r, errno, c.want)
		}
	}
	if r, errno := record.Get(nil); r != (api.Record{}) || errno != api.ErrShort {
		t.Errorf("Get of nil: %+v, %d", r, errno)
	}
}

// A first byte that is no Kind is told ahead of how many bytes there are, were they none but it.
func TestGetOfEachFirstByte(t *testing.T) {
	bodies := []string{""}
	for _, r := range all(one, full) {
		body := bytesOf(r)[1:]
		bodies = append(bodies, body, body[:len(body)-1], body+"\x00")
	}
	for first := range 256 {
		for _, body := range bodies {
			b := string([]byte{byte(first)}) + body
			if errno := checkBytes(t, b); (errno == api.ErrKind) != (first < 1 || first > 6) {
				t.Errorf("of % x: %d", b, errno)
			}
		}
	}
}

func TestGetOfEachBeginning(t *testing.T) {
	for _, r := range append(all(one, full), rights()...) {
		b := bytesOf(r)
		for n := range len(b) {
			if got, errno := record.Get(roomy(b)[:n]); got != (api.Record{}) || errno != api.ErrShort {
				t.Fatalf("Get of % x: %+v, %d", b[:n], got, errno)
			}
		}
	}
}

// Also where what is there is wrong: that it is too short is told first.
func TestGetOfEachBeginningOfWrongRecords(t *testing.T) {
	for _, right := range all(one, full) {
		for _, f := range faults(right.Kind)[2:] {
			r := right
			f.make(&r)
			b := bytesOf(r)
			for n := range len(b) {
				if errno := checkBytes(t, b[:n]); errno != api.ErrShort {
					t.Errorf("of % x: %d", b[:n], errno)
				}
			}
		}
	}
}

func TestGetOfMoreBytes(t *testing.T) {
	tails := []string{"\x00", "\x01", "t", "\xff", eight(0), eight(1), bytesOf(one(1)), strings.Repeat("\x00", 255), strings.Repeat("\x00", 256), strings.Repeat("a", 5000)}
	for _, r := range all(one, full) {
		for _, tail := range append(tails, bytesOf(r)) {
			if errno := checkBytes(t, bytesOf(r)+tail); errno != api.ErrLong {
				t.Errorf("of % x and % x: %d", bytesOf(r), tail, errno)
			}
		}
		for _, f := range faults(r.Kind)[2:] {
			wrong := r
			f.make(&wrong)
			if errno := checkBytes(t, bytesOf(wrong)+"\x00"); errno != api.ErrLong {
				t.Errorf("of % x and one byte more: %d", bytesOf(wrong), errno)
			}
		}
	}
}

// The Tag's length says how many bytes there must be, also where no Tag has so many.
func TestGetOfEachLengthOfATag(t *testing.T) {
	for kind := 1; kind <= 2; kind++ {
		for n := range 256 {
			head := string([]byte{byte(kind)}) + eight(258) + string([]byte{byte(n)})
			want := api.OK
			if n < 1 || n > 16 {
				want = api.ErrName
			}
			b := head + strings.Repeat("a", n) + eight(3)
			for size, want := range map[int]api.Errno{len(head): api.ErrShort, len(b) - 9: api.ErrShort, len(b) - 8: api.ErrShort, len(b) - 1: api.ErrShort, len(b): want} {
				if errno := checkBytes(t, b[:size]); errno != want {
					t.Errorf("of % x: %d, not %d", b[:size], errno, want)
				}
			}
			if errno := checkBytes(t, b+"\x00"); errno != api.ErrLong {
				t.Errorf("of % x and one byte more: %d", b, errno)
			}
			if errno := checkBytes(t, head[:9]); errno != api.ErrShort {
				t.Errorf("of % x: %d", head[:9], errno)
			}
		}
	}
}

// What the bytes say is held against the words of Check, for each of its reasons.
func TestGetOfWrongRecords(t *testing.T) {
	for _, right := range all(one, full) {
		l := faults(right.Kind)
		for i, first := range l {
			if first.errno == api.ErrField || first.errno == api.ErrKind {
				continue // no bytes say a field that has no meaning, and of a Kind that is none there are none
			}
			for _, second := range l[i:] {
				r := right
				second.make(&r)
				first.make(&r)
				if errno := checkBytes(t, bytesOf(r)); errno != first.errno {
					t.Errorf("of % x: %d, not %d", bytesOf(r), errno, first.errno)
				}
			}
		}
	}
}

func TestGetOfTags(t *testing.T) {
	for _, r := range []api.Record{one(1), one(2), full(1), full(2)} {
		for _, tag := range append(names(), strays()...) {
			if len(tag) > 255 {
				continue
			}
			r.Tag = tag
			want := api.OK
			if !tags.Name(tag) {
				want = api.ErrName
			}
			if errno := checkBytes(t, bytesOf(r)); errno != want {
				t.Errorf("of % x: %d, not %d", bytesOf(r), errno, want)
			}
		}
	}
}

// Eight bytes are a number from -2^63 on, below 2^63: one from 2^63 on is one below 0.
func TestGetOfNumbersAtTheEdges(t *testing.T) {
	raw := []string{
		"\x7f\xff\xff\xff\xff\xff\xff\xfe", "\x7f\xff\xff\xff\xff\xff\xff\xff", "\x80\x00\x00\x00\x00\x00\x00\x00", "\x80\x00\x00\x00\x00\x00\x00\x01",
		"\xff\xff\xff\xff\xff\xff\xff\xff", "\xff\xff\xff\xff\xff\xff\xff\xfe", "\xff\xff\xff\x00\x00\x00\x00\x00", "\xff\xff\xfe\xff\xff\xff\xff\xff", "\xff\xff\xff\x00\x00\x00\x00\x01",
		"\x00\x00\x01\x00\x00\x00\x00\x00", "\x00\x00\x01\x00\x00\x00\x00\x01", "\x00\x00\x00\xff\xff\xff\xff\xff", "\x80\x00\x01\x00\x00\x00\x00\x00",
		"\x01\x00\x00\x00\x00\x00\x00\x01", "\x00\x00\x00\x01\x00\x00\x00\x01", "\x80\x00\x00\x00\x00\x00\x00\x03",
	}
	for _, v := range values() {
		raw = append(raw, eight(v))
	}
	for kind := 1; kind <= 6; kind++ {
		text := ""
		if has(kind, "T") {
			text = "\x01t"
		}
		for _, at := range raw {
			for _, first := range raw {
				b := string([]byte{byte(kind)}) + at + text + first
				if kind != api.RResult {
					checkBytes(t, b)
					continue
				}
				for _, second := range raw {
					checkBytes(t, b+second)
				}
			}
		}
	}
	if r, errno := record.Get([]byte("\x01" + eight(0) + "\x01t" + "\xff\xff\xff\x00\x00\x00\x00\x00")); r.Value != -top || errno != api.OK {
		t.Errorf("the least value: %+v, %d", r, errno)
	}
}

// Each byte of right records put to each that there is.
func TestGetOfSpoiltBytes(t *testing.T) {
	found := map[api.Errno]int{}
	for _, r := range all(one, full) {
		b := []byte(bytesOf(r))
		for at, was := range b {
			for v := range 256 {
				b[at] = byte(v)
				found[checkBytes(t, string(b))]++
			}
			b[at] = was
		}
	}
	for _, errno := range []api.Errno{api.OK, api.ErrShort, api.ErrLong, api.ErrRange, api.ErrName, api.ErrKind} {
		if found[errno] == 0 {
			t.Errorf("no bytes told %d", errno)
		}
	}
}

func TestGetOfAnyBytes(t *testing.T) {
	r := rand.New(rand.NewSource(2))
	for range 100000 {
		b := make([]byte, r.Intn(40))
		r.Read(b)
		if len(b) > 0 && r.Intn(8) > 0 {
			b[0] = byte(r.Intn(8))
		}
		for at := 1; at < len(b) && at < 9; at++ {
			b[at] = 0
		}
		if len(b) > 9 && r.Intn(2) > 0 {
			b[9] = byte(r.Intn(18))
		}
		checkBytes(t, string(b))
	}
}

// P11.4

func TestGetOfPutIsTheRecord(t *testing.T) {
	for _, r := range rights() {
		b, errno := record.Put(r)
		if errno != api.OK {
			t.Fatalf("Put of %+v: %d", r, errno)
		}
		if got, errno := record.Get(b); got != r || errno != api.OK {
			t.Fatalf("Get of % x: %+v, %d, not %+v", b, got, errno, r)
		}
	}
}

// Rows that Get takes, most of which Put has not made ahead: Put makes them again.
func TestPutOfGetIsTheBytes(t *testing.T) {
	r := rand.New(rand.NewSource(3))
	taken := 0
	for _, x := range rights() {
		b := []byte(bytesOf(x))
		b[1+r.Intn(len(b)-1)] ^= 1 << r.Intn(8)
		got, errno := record.Get(b)
		if errno != api.OK {
			continue
		}
		taken++
		if again, errno := record.Put(got); !bytes.Equal(again, b) || errno != api.OK {
			t.Fatalf("Put of %+v: % x, %d, not % x", got, again, errno, b)
		}
	}
	if taken < 1000 {
		t.Errorf("Get has taken %d rows, too few to show anything", taken)
	}
}

// Where a row is the beginning of others, it is that of the one right behind it in the order of the bytes.
func TestNoBytesAreTheBeginningOfOthers(t *testing.T) {
	var rows []string
	for _, r := range rights() {
		b, _ := record.Put(r)
		rows = append(rows, string(b))
	}
	slices.Sort(rows)
	rows = slices.Compact(rows)
	for i, b := range rows[1:] {
		if strings.HasPrefix(b, rows[i]) {
			t.Fatalf("% x is the beginning of % x", rows[i], b)
		}
	}
	if len(rows) < 3000 {
		t.Errorf("only %d rows", len(rows))
	}
}

// Of a row that begins with a record's bytes Get takes just these, whatever stands behind them.
func TestARecordIsFoundAtTheBeginningOfARow(t *testing.T) {
	for _, r := range all(one, full) {
		for _, next := range all(one, full) {
			row := bytesOf(r) + bytesOf(next)
			for n := range len(row) + 1 {
				got, errno := record.Get([]byte(row[:n]))
				if (errno == api.OK) != (n == len(bytesOf(r))) || errno == api.OK && got != r {
					t.Fatalf("Get of % x: %+v, %d", row[:n], got, errno)
				}
			}
		}
	}
}

func TestNoRecordHasMoreBytes(t *testing.T) {
	longest := 0
	for _, r := range append(rights(), all(full)...) {
		b, _ := record.Put(r)
		longest = max(longest, len(b))
	}
	if longest != 34 {
		t.Errorf("the longest has %d bytes", longest)
	}
	for kind, want := range map[int]int{1: 34, 2: 34, 3: 17, 4: 17, 5: 17, 6: 25} {
		if b, errno := record.Put(full(kind)); len(b) != want || errno != api.OK {
			t.Errorf("of the Kind %d: %d bytes, %d", kind, len(b), errno)
		}
	}
}

// R3

func TestMemoryOfPut(t *testing.T) {
	for _, r := range all(one, full) {
		kept := r
		first, _ := record.Put(r)
		second, _ := record.Put(r)
		first = first[:cap(first)]
		for i := range first {
			first[i] = 0xAA
		}
		if string(second) != bytesOf(r) {
			t.Errorf("of %+v: % x: it shares memory with the answer ahead of it", r, second)
		}
		if third, errno := record.Put(r); string(third) != bytesOf(r) || errno != api.OK {
			t.Errorf("of %+v: % x, %d: it hangs on an answer that was changed", r, third, errno)
		}
		for _, b := range first {
			if b != 0xAA {
				t.Errorf("of %+v: % x: an answer was written over by later ones", r, first)
				break
			}
		}
		if r != kept {
			t.Errorf("Put has changed %+v to %+v", kept, r)
		}
	}
}

func TestMemoryOfGet(t *testing.T) {
	for _, want := range all(one, full) {
		b := roomy(bytesOf(want))
		got, _ := record.Get(b)
		whole := b[:cap(b)]
		for i := range whole {
			whole[i] = 'x'
		}
		if got != want {
			t.Errorf("%+v has become %+v as its bytes were changed", want, got)
		}
		if again, errno := record.Get([]byte(bytesOf(want))); again != want || errno != api.OK {
			t.Errorf("Get of the same bytes again: %+v, %d", again, errno)
		}
	}
}

// The bytes that are missing lie in the spare room, if there is some: they are not taken from there.
func TestGetDoesNotReadTheSpareRoom(t *testing.T) {
	for _, r := range all(one, full) {
		whole := []byte(bytesOf(r))
		for n := range whole {
			if got, errno := record.Get(whole[:n]); got != (api.Record{}) || errno != api.ErrShort {
				t.Errorf("Get of % x: %+v, %d", whole[:n], got, errno)
			}
			if got, errno := record.Get(whole[:n:n]); got != (api.Record{}) || errno != api.ErrShort {
				t.Errorf("Get of % x, without spare room: %+v, %d", whole[:n], got, errno)
			}
		}
	}
}
