package index_test

import (
	"encoding/binary"
	"fmt"
	"slices"
	"strings"
	"testing"

	"outstation/api"
)

// opened is a new device, the log of some payloads on it, and its index.
func opened(t *testing.T, payloads ...string) *pair {
	t.Helper()
	return openedOn(t, room, nil, payloads...)
}

// openedOn is a device with files, and behind the log that it holds some payloads, and its index.
func openedOn(t *testing.T, room int, files map[string]string, payloads ...string) *pair {
	t.Helper()
	p := newPair(t, room, files)
	p.logs(payloads...)
	p.answers(p.open(), api.OK)
	p.look()
	return p
}

// example is the log of the chapter's examples.
func example() []string { return append(samples(5, 3, 5), "\x07") }

// trimmed is an index of a log that had 84 records, and has dropped all but two, of the times 5 and 6.
func trimmed(t *testing.T) *pair {
	t.Helper()
	p := opened(t)
	for i := range 84 {
		p.notes(i % 7)
	}
	p.syncs()
	p.answers(p.trims(84, 1), api.OK)
	if p.l.First() != 82 || p.l.Next() != 84 {
		t.Fatal(p.l.First(), p.l.Next())
	}
	return p
}

// counted is the numbers from one on, below another.
func counted(from, to int) []int {
	var out []int
	for n := from; n < to; n++ {
		out = append(out, n)
	}
	return out
}

func TestAsTheChapterSays(t *testing.T) {
	p := opened(t, example()...)
	p.tells(1, 0, 2)
	for _, x := range []struct {
		from, to, floor int
		want            []int
	}{{0, 9, 0, []int{1, 0, 2}}, {3, 5, 0, []int{1}}, {5, 6, 1, []int{2}}} {
		if got := p.x.Range(x.from, x.to, x.floor); !slices.Equal(got, x.want) {
			t.Errorf("Range %d, %d, %d: %d", x.from, x.to, x.floor, got)
		}
	}
	p.answers(p.add(4, 2), api.ErrOrder)
	p.answers(p.add(4, 4), api.OK)
	p.answers(p.add(-1, 9), api.ErrRange)
	if got := p.x.Range(4, 6, 0); !slices.Equal(got, []int{4, 0, 2}) {
		t.Error(got)
	}
	p.look()

	p = opened(t, example()...)
	p.answers(p.save(), api.OK)
	if b, _ := p.d.Read("idx"); len(b) != 54 {
		t.Error(len(b), "bytes")
	}
}

// P16.1

func TestOpenOfLogsWithoutPayloads(t *testing.T) {
	for _, first := range []int{0, 1, 7, 1 << 32, maxSeq - 1, maxSeq} {
		for _, files := range []map[string]string{{"head": headOf(1, first)}, {"head": headOf(3, first), "log-3": ""}} {
			p := openedOn(t, room, files)
			p.tells()
			p.adds(0, 0)
			p.tells(0)
			p.look()
		}
	}
	p := opened(t)
	p.tells()
	p.has()
	p.adds(0, 0)
	p.tells(0)
	p.look()
}

func TestOpenOfOneRecord(t *testing.T) {
	for _, time := range []int{0, 1, 255, 256, 1 << 32, maxTime - 1, maxTime} {
		for _, first := range []int{0, 1, 300, 1 << 32, maxSeq - 1, maxSeq} {
			p := openedOn(t, room, map[string]string{"head": headOf(1, first), "log-1": chunks(sample(time))})
			p.tells(first)
			p.look()
			for _, x := range []struct{ from, to, count int }{{time, time + 1, 1}, {time + 1, most, 0}, {least, time, 0}, {time, time, 0}, {time + 1, time, 0}} {
				if got := p.x.Range(x.from, x.to, first); len(got) != x.count {
					t.Errorf("Range %d, %d: %d", x.from, x.to, got)
				}
			}
		}
	}
}

func TestOpenOfTimesInAnyOrder(t *testing.T) {
	for name, time := range map[string]func(i, n int) int{
		"rising":        func(i, n int) int { return i },
		"falling":       func(i, n int) int { return n - i },
		"equal":         func(i, n int) int { return 9 },
		"of two times":  func(i, n int) int { return i % 2 },
		"of few times":  func(i, n int) int { return i * 7 % 5 },
		"mixed":         func(i, n int) int { return i * 37 % 101 },
		"far and near":  func(i, n int) int { return i % 3 * maxTime / 2 },
		"rising, steps": func(i, n int) int { return i / 4 * 1000 },
	} {
		for _, n := range []int{1, 2, 3, 5, 31, 32, 33, 64, 200, 600} {
			var l []string
			for i := range n {
				l = append(l, sample(time(i, n)))
			}
			p := opened(t, l...)
			if p.x.Len() != n || len(p.x.Range(0, maxTime+1, 0)) != n {
				t.Errorf("%s: %d entries, not %d", name, p.x.Len(), n)
			}
		}
	}
	p := opened(t, samples(1, 2, 3, 4)...)
	p.tells(0, 1, 2, 3)
	p = opened(t, samples(4, 3, 2, 1)...)
	p.tells(3, 2, 1, 0)
	p = opened(t, samples(6, 6, 6, 6)...)
	p.tells(0, 1, 2, 3)
	p = opened(t, samples(6, 2, 6, 4, 2, 4, 6)...)
	p.tells(1, 4, 3, 5, 0, 2, 6)
	p = opened(t, samples(maxTime, 0, maxTime, 0)...)
	p.tells(1, 3, 0, 2)
}

// ofEachKind is records of some time, one of each Kind.
func ofEachKind(time int) []string {
	var out []string
	for _, r := range []api.Record{
		{Kind: api.RSample, Tag: "a", Value: -1},
		{Kind: api.RAlarm, Tag: "sixteen-letters_", Value: api.Cleared},
		{Kind: api.ROver, Value: 7},
		{Kind: api.RBoot, Value: 1},
		{Kind: api.RIntent, Id: 5},
		{Kind: api.RResult, Id: 5, Value: 102},
	} {
		r.Time = time
		out = append(out, recordOf(r))
	}
	return out
}

func TestOpenOfRecordsOfEachKind(t *testing.T) {
	p := opened(t, append(ofEachKind(4), ofEachKind(3)...)...)
	p.tells(6, 7, 8, 9, 10, 11, 0, 1, 2, 3, 4, 5)
}

// boot is the bytes of a start, laid by hand.
func boot(time, value uint64) string {
	b := binary.BigEndian.AppendUint64([]byte{api.RBoot}, time)
	return string(binary.BigEndian.AppendUint64(b, value))
}

// noRecords is payloads that record.Get refuses.
func noRecords() []string {
	return []string{
		"", "\x00", "\x01", "\x07", "\x04", strings.Repeat("\x00", 17), strings.Repeat("\xff", 17), strings.Repeat("\x04", 1024), strings.Repeat("\x07", 1024),
		sample(3)[:len(sample(3))-1], sample(3) + "\x00", sample(3) + sample(3), "\x07" + sample(3)[1:],
		boot(maxTime+1, 1), boot(1<<63, 1), boot(1<<64-1, 1), boot(3, 0), boot(3, maxSeq+1), boot(3, 1<<63), boot(3, 1)[:16],
		strings.Replace(sample(3), "a", "1", 1), strings.Replace(sample(3), "a", "\x00", 1),
	}
}

func TestOpenOfOtherPayloads(t *testing.T) {
	p := opened(t, noRecords()...)
	p.tells()
	p.adds(3, 0)
	p.look()
	for _, other := range noRecords() {
		p = opened(t, other)
		p.tells()
		p = opened(t, other, other, sample(9))
		p.tells(2)
		p = opened(t, sample(9), other)
		p.tells(0)
		p = opened(t, sample(9), other, sample(8), other, other, sample(9), sample(8), other)
		p.tells(2, 6, 0, 5)
		p.adds(8, 7)
		p.tells(2, 6, 7, 0, 5)
	}
}

// What a record's time could be, from the least that may not be up to the greatest that may not be.
func TestOpenOfTimesAtTheirEnds(t *testing.T) {
	p := opened(t, boot(maxTime+1, 1), boot(maxTime, 1), boot(1<<64-1, 1), boot(0, 1), boot(maxTime-1, 1))
	p.tells(3, 4, 1)
}

func TestOpenBehindATrim(t *testing.T) {
	p := trimmed(t)
	for range 2 {
		p.answers(p.open(), api.OK)
		p.tells(82, 83)
		p.look()
		p.save()
	}
	p = opened(t, row(1018, 1), sample(8), row(1018, 2), sample(7), row(1018, 3), sample(9), sample(6))
	p.tells(6, 3, 1, 5)
	p.syncs()
	p.answers(p.trims(3, 1), api.OK)
	p.answers(p.open(), api.OK)
	p.tells(6, 3, 5)
	p.look()
	p.logs(sample(1), row(1024, 4), sample(8))
	p.syncs()
	p.answers(p.trims(most, 1), api.OK)
	p.answers(p.open(), api.OK)
	if p.l.First() != 9 {
		t.Fatal(p.l.First())
	}
	p.tells(9)
	p.look()
}

// row is so many bytes that are no record.
func row(n int, seed byte) string { return strings.Repeat(string([]byte{0x70 + seed}), n) }

// A log's numbers may be above MaxSeq, if somebody has laid its head: the index has these, too.
func TestOpenOfGreatNumbers(t *testing.T) {
	for _, first := range []int{255, 1<<16 - 2, 1<<32 - 2, maxSeq - 4, maxSeq - 2, maxSeq} {
		p := openedOn(t, room, map[string]string{"head": headOf(7, first), "log-7": chunks(sample(5), "", sample(3), sample(5))})
		p.tells(first+2, first, first+3)
		p.answers(p.save(), api.OK)
		p.file("idx", fileOf([]entry{{3, first + 2}, {5, first}, {5, first + 3}}))
		for _, seq := range []int{0, first, first + 3} {
			want := api.Errno(api.ErrOrder)
			if seq > maxSeq {
				want = api.ErrRange
			}
			p.answers(p.add(4, seq), want)
		}
		want := api.Errno(api.OK)
		if first+4 > maxSeq {
			want = api.ErrRange
		}
		p.answers(p.add(4, first+4), want)
		p.look()
	}
}

// Payloads are taken that do not last yet.
func TestOpenOfPayloadsThatDoNotLast(t *testing.T) {
	p := newPair(t, room, nil)
	p.logs(samples(5, 4)...)
	p.syncs()
	p.logs(samples(3, 9)...)
	p.answers(p.open(), api.OK)
	if p.l.Safe() != 2 || p.l.Next() != 4 {
		t.Fatal(p.l.Safe(), p.l.Next())
	}
	p.tells(2, 1, 0, 3)
	p.look()
	p.wake(0)
	p.answers(p.open(), api.OK)
	p.tells(1, 0)
}

func TestOpenWithoutPower(t *testing.T) {
	for _, files := range []map[string]string{{}, {"idx": "x"}, {"idx.new": "x"}, {"idx": fileOf([]entry{{3, 0}}), "idx.new": ""}} {
		p := newPair(t, room, files)
		p.logs(example()...)
		names := p.d.Names()
		p.fails()
		for range 2 {
			p.answers(p.open(), api.ErrDown)
			p.has(names...)
			p.alike()
		}
		p.did()
	}
}

// other is files whose names are much like those of the index.
func other() map[string]string {
	return map[string]string{"idx.ne": "a", "idx.new2": "b", "idx.": "c", "IDX.NEW": "d", "xidx.new": "e", "idx.old": "f", "index": "g", "id": "h", "idx-new": "i", "idx.new\x00": "j", "idxnew": "k", "idy.new": "l", "new": "m", ".new": "n"}
}

func TestOpenDoesNothingElse(t *testing.T) {
	for _, idx := range append(files(), "none") {
		laid := other()
		if idx != "none" {
			laid["idx"] = idx
		}
		p := newPair(t, room, laid)
		p.logs(example()...)
		p.arm(0)
		p.answers(p.open(), api.OK)
		p.tells(1, 0, 2)
		p.did()
		p.look()
	}
}

func TestOpenRemovesTheNewFile(t *testing.T) {
	for _, b := range files() {
		laid := other()
		laid["idx.new"] = b
		laid["idx"] = "x"
		p := newPair(t, room, laid)
		p.logs(example()...)
		p.arm(0)
		p.answers(p.open(), api.ErrDown)
		p.file("idx.new", b)
		p.alike()

		p = newPair(t, room, laid)
		p.logs(example()...)
		p.arm(1)
		p.answers(p.open(), api.OK)
		p.noFile("idx.new")
		p.file("idx", "x")
		p.tells(1, 0, 2)
		p.did("remove idx.new")
		p.look()
	}
}

// files is bytes of any kind that may stand in idx and idx.new: of the log of the examples some are right, some are near to that, and some are none.
func files() []string {
	right := []entry{{3, 1}, {5, 0}, {5, 2}}
	whole := fileOf(right)
	return []string{
		"", "\x00", "x", whole, whole[:len(whole)-1], whole + "\x00", whole + chunkOf(""), whole + whole,
		whole[:6], whole[6:], whole[:30], chunkOf(""), chunkOf("\x00"), chunkOf(whole[6:22]), chunkOf(whole[6:22]) + chunkOf(whole[22:]),
		fileOf([]entry{{5, 0}}), fileOf([]entry{{3, 1}, {5, 0}}), fileOf([]entry{{4, 1}, {5, 0}, {5, 2}}), fileOf([]entry{{0, 0}, {0, 1}, {0, 2}}),
		fileOf(append(right, entry{9, 4})), fileOf(append(right, entry{9, 3})), fileOf(append(right, entry{0, maxSeq})), fileOf([]entry{{1, 7}, {2, 8}, {3, 9}}),
		chunkOf(whole[22:] + whole[6:22]), strings.Repeat("\xff", 54), strings.Repeat("\x00", 6), row(3000, 1), sample(3), chunkOf(sample(3)), headOf(1, 0),
	}
}

// P16.5

func TestOpenOverFilesOfAnyKind(t *testing.T) {
	for _, idx := range files() {
		for _, made := range append(files()[:6], files()[20:]...) {
			p := newPair(t, room, map[string]string{"idx": idx, "idx.new": made})
			p.logs(example()...)
			for range 2 {
				p.answers(p.open(), api.OK)
				p.tells(1, 0, 2)
				p.file("idx", idx)
				p.noFile("idx.new")
			}
			p.answers(p.add(5, 2), api.ErrOrder)
			p.adds(5, 3)
			p.tells(1, 0, 2, 3)
			p.answers(p.save(), api.OK)
			p.file("idx", fileOf([]entry{{3, 1}, {5, 0}, {5, 2}, {5, 3}}))
			p.alike()
		}
	}
}

// What was added, but is not in the log, is not there once more; nor is what the log has lost.
func TestOpenOnceMore(t *testing.T) {
	p := opened(t, example()...)
	p.adds(4, 4)
	p.adds(1, 900)
	p.tells(900, 1, 4, 0, 2)
	p.answers(p.save(), api.OK)
	p.answers(p.open(), api.OK)
	p.tells(1, 0, 2)
	p.look()

	p.syncs()
	p.notes(4, 1)
	p.answers(p.save(), api.OK)
	p.answers(p.open(), api.OK)
	p.tells(5, 1, 4, 0, 2)
	p.wake(len(chunkOf(sample(4))))
	p.answers(p.open(), api.OK)
	p.tells(1, 4, 0, 2)
	p.look()
	p.adds(2, 5)
	p.tells(5, 1, 4, 0, 2)
}

// P16.2

// ends is numbers at the ends of what may be, and of an int.
func ends() []int {
	return []int{least, least + 1, -maxTime, -1 << 32, -2, -1, 0, 1, 2, 1 << 31, 1 << 32, maxTime - 1, maxTime, maxTime + 1, maxTime + 2, 2 * maxTime, 1 << 62, most - 1, most}
}

func TestAddOfEndsOfTimeAndNumber(t *testing.T) {
	for _, time := range ends() {
		for _, seq := range ends() {
			p := opened(t)
			may := time >= 0 && time <= maxTime && seq >= 0 && seq <= maxSeq
			if !may {
				p.answers(p.add(time, seq), api.ErrRange)
				p.tells()
				p.adds(0, 0)
				p.tells(0)
				continue
			}
			p.answers(p.add(time, seq), api.OK)
			p.tells(seq)
			p.answers(p.add(time, seq), api.ErrOrder)
			p.answers(p.add(0, seq), api.ErrOrder)
			p.look()
		}
	}
}

// Beside a number that is not in order, what is out of its range is told first.
func TestAddTellsRangeAheadOfOrder(t *testing.T) {
	for _, greatest := range []int{0, 1, 5, maxSeq - 1, maxSeq} {
		p := opened(t)
		p.adds(7, greatest)
		for _, time := range ends() {
			for _, seq := range append(ends(), greatest-1, greatest) {
				if seq > greatest && seq <= maxSeq && time >= 0 && time <= maxTime {
					continue
				}
				want := api.Errno(api.ErrOrder)
				if time < 0 || time > maxTime || seq < 0 || seq > maxSeq {
					want = api.ErrRange
				}
				p.answers(p.add(time, seq), want)
			}
		}
		p.tells(greatest)
		p.look()
	}
}

// It is the greatest number that counts, be its time what it is, and be the log's Next what it is.
func TestAddOrder(t *testing.T) {
	for _, times := range [][]int{{1, 2, 3, 4}, {4, 3, 2, 1}, {1, 4, 2, 3}, {4, 4, 4, 4}, {3, 1, 9, 2}, {0, 0, maxTime, 0}} {
		for seq := -1; seq < 9; seq++ {
			for _, time := range []int{0, 1, 2, 3, 4, 9, maxTime} {
				p := opened(t, append(samples(times...), "", "")...)
				want := api.Errno(api.OK)
				switch {
				case seq < 0:
					want = api.ErrRange
				case seq <= 3:
					want = api.ErrOrder
				}
				p.answers(p.add(time, seq), want)
				if p.x.Len() == 5 != (want == api.OK) {
					t.Fatal(p.x.Len())
				}
				p.ranges(inOrder(p.r.has), least, most, least)
			}
		}
	}
}

func TestAddOneBehindTheOther(t *testing.T) {
	p := opened(t, example()...)
	seq := 2
	for i, step := range []int{1, 1, 2, 1, 5, 100, 1, 1 << 20, 1 << 39, 1} {
		seq += step
		p.adds(i*5%7, seq)
		p.answers(p.add(i, seq), api.ErrOrder)
		p.answers(p.add(most, seq+1), api.ErrRange)
		p.answers(p.add(i, seq-1), api.ErrOrder)
		p.look()
	}
	p.adds(5, maxSeq)
	p.answers(p.add(5, maxSeq), api.ErrOrder)
	p.answers(p.add(5, maxSeq+1), api.ErrRange)
	if p.x.Len() != 3+10+1 {
		t.Error(p.x.Len())
	}
	p.look()
}

// Neither the log nor the device is asked: an entry may have a number that the log has not, or has dropped.
func TestAddWithoutTheLog(t *testing.T) {
	p := trimmed(t)
	p.answers(p.save(), api.OK)
	p.tells(82, 83)
	p.answers(p.add(9, 3), api.ErrOrder)
	p.adds(9, 84)
	p.adds(0, 85)
	p.tells(85, 82, 83, 84)
	if p.l.Next() != 84 {
		t.Fatal(p.l.Next())
	}

	p = openedOn(t, room, map[string]string{"head": headOf(4, 100), "log-4": chunks("", "")})
	for i := range 4 {
		p.adds(9-i, 97+i)
	}
	p.tells(100, 99, 98, 97)
	p.answers(p.save(), api.OK)
	p.tells(100)
	p.look()
}

func TestAddAndRangeWithoutPower(t *testing.T) {
	p := opened(t, example()...)
	p.fails()
	p.adds(4, 3)
	p.answers(p.add(4, 3), api.ErrOrder)
	p.answers(p.add(-1, 3), api.ErrRange)
	p.tells(1, 3, 0, 2)
	p.look()
	p.did()
}

func TestAddOfMany(t *testing.T) {
	p := opened(t)
	for i := range 5000 {
		p.x.Add(i*7919%1009, i*3)
		p.r.has = append(p.r.has, entry{i * 7919 % 1009, i * 3})
	}
	p.look()
	p.answers(p.save(), api.ErrFull)
	if p.x.Len() != 5000 {
		t.Error(p.x.Len())
	}
	p.look()
}

// P16.4

func TestRangeOfAllTimesAndFloors(t *testing.T) {
	times := []int{least, least + 1, -1, 0, 1, 2, 3, 4, 5, 6, 7, 8, 9, 10, maxTime - 1, maxTime, maxTime + 1, 1 << 62, most - 1, most}
	for _, laid := range [][]int{{}, {5}, {5, 3, 5}, {2, 2, 4, 4, 8, 8}, {8, 4, 2, 8, 4, 2}, {0, maxTime, 0, maxTime}, {1, 2, 3, 4, 5, 6, 7, 8, 9}, {9, 8, 7, 6, 5, 4, 3, 2, 1, 0}} {
		for _, first := range []int{0, 4, maxSeq - 20} {
			p := openedOn(t, room, map[string]string{"head": headOf(1, first), "log-1": chunks(samples(laid...)...)})
			l := inOrder(p.r.has)
			floors := append(counted(first-1, first+len(laid)+2), least, -1, 0, maxSeq, maxSeq+1, most)
			for _, from := range times {
				for _, to := range times {
					for _, floor := range floors {
						p.ranges(l, from, to, floor)
					}
				}
			}
		}
	}
}

// Told outright: both ends of the times, and of the floor; crossed ones; those of one time by their numbers.
func TestRangeEnds(t *testing.T) {
	p := opened(t, samples(6, 2, 6, 4, 2, 4, 6, 0, maxTime)...) // 0: 7; 2: 1, 4; 4: 3, 5; 6: 0, 2, 6; the last one: 8
	for _, x := range []struct {
		from, to, floor int
		want            []int
	}{
		{2, 4, 0, []int{1, 4}}, {2, 5, 0, []int{1, 4, 3, 5}}, {3, 5, 0, []int{3, 5}}, {3, 4, 0, nil}, {4, 4, 0, nil}, {4, 3, 0, nil}, {6, 2, 0, nil}, {most, least, 0, nil},
		{0, 1, 0, []int{7}}, {-1, 0, 0, nil}, {least, 0, 0, nil}, {least, 1, 0, []int{7}}, {1, 2, 0, nil}, {0, 0, 0, nil},
		{maxTime, maxTime, 0, nil}, {maxTime, maxTime + 1, 0, []int{8}}, {maxTime, most, 0, []int{8}}, {maxTime + 1, most, 0, nil}, {7, maxTime, 0, nil}, {most, most, 0, nil}, {least, least, 0, nil},
		{6, 7, 0, []int{0, 2, 6}}, {6, 7, 1, []int{2, 6}}, {6, 7, 2, []int{2, 6}}, {6, 7, 3, []int{6}}, {6, 7, 6, []int{6}}, {6, 7, 7, nil}, {6, 7, most, nil}, {6, 7, least, []int{0, 2, 6}},
		{least, most, 4, []int{7, 4, 5, 6, 8}}, {least, most, 8, []int{8}}, {least, most, 9, nil}, {least, most, least, []int{7, 1, 4, 3, 5, 0, 2, 6, 8}}, {0, 5, 5, []int{7, 5}},
	} {
		if got := p.x.Range(x.from, x.to, x.floor); !slices.Equal(got, x.want) {
			t.Errorf("Range %d, %d, %d: %d", x.from, x.to, x.floor, got)
		}
	}
}

// The log's First is no floor: what was dropped is told until it is saved.
func TestRangeBehindATrim(t *testing.T) {
	p := trimmed(t)
	if p.x.Len() != 84 || len(p.x.Range(0, 7, 0)) != 84 || !slices.Equal(p.x.Range(0, 7, 82), []int{82, 83}) {
		t.Fatal(p.x.Len(), p.x.Range(0, 7, 82))
	}
	p.look()
	p.answers(p.save(), api.OK)
	p.tells(82, 83)
	p.look()
}

func TestLen(t *testing.T) {
	p := opened(t, example()...)
	for _, x := range []struct{ time, seq, want int }{{5, 2, 3}, {5, 3, 4}, {5, 3, 4}, {-1, 4, 4}, {5, -1, 4}, {maxTime + 1, 4, 4}, {5, maxSeq + 1, 4}, {maxTime, 4, 5}, {0, maxSeq, 6}, {0, maxSeq, 6}} {
		p.add(x.time, x.seq)
		for range 3 {
			if got := p.x.Len(); got != x.want {
				t.Errorf("behind Add %d, %d: %d", x.time, x.seq, got)
			}
		}
	}
	p.logs(sample(5))
	if got := p.x.Len(); got != 6 {
		t.Errorf("behind the log's Append: %d", got)
	}
	p.look()
}

// P16.3

// Told outright, byte by byte.
func TestSaveBytes(t *testing.T) {
	p := opened(t, append(samples(513, 3, 513), "")...)
	p.answers(p.save(), api.OK)
	payload := "\x00\x00\x00\x00\x00\x00\x00\x03" + "\x00\x00\x00\x00\x00\x00\x00\x01" +
		"\x00\x00\x00\x00\x00\x00\x02\x01" + "\x00\x00\x00\x00\x00\x00\x00\x00" +
		"\x00\x00\x00\x00\x00\x00\x02\x01" + "\x00\x00\x00\x00\x00\x00\x00\x02"
	p.file("idx", chunkOf(payload))

	p = opened(t)
	p.adds(maxTime, 0x0102030405)
	p.answers(p.save(), api.OK)
	p.file("idx", chunkOf("\x00\x00\x01\x00\x00\x00\x00\x00"+"\x00\x00\x00\x01\x02\x03\x04\x05"))
	p.has("idx")
}

func TestSaveOfNoEntry(t *testing.T) {
	for _, l := range [][]string{nil, {""}, {"\x07", row(1024, 1)}} {
		p := opened(t, l...)
		for range 2 {
			p.answers(p.save(), api.OK)
			p.file("idx", "")
			p.noFile("idx.new")
			p.tells()
			p.look()
		}
	}
	p := openedOn(t, room, map[string]string{"idx": "x"})
	p.answers(p.save(), api.OK)
	p.file("idx", "")
}

// Each chunk but the last one has 64 entries, and the last one some.
func TestSaveOfFullChunks(t *testing.T) {
	for _, x := range []struct{ entries, chunks, bytes int }{
		{1, 1, 22}, {2, 1, 38}, {63, 1, 1014}, {64, 1, 1030}, {65, 2, 1052}, {127, 2, 2044}, {128, 2, 2060}, {129, 3, 2082}, {192, 3, 3090}, {193, 4, 3112}, {1000, 16, 16096},
	} {
		for _, step := range []int{1, 37, 0} {
			p := opened(t)
			for i := range x.entries {
				p.adds(i*step%1009, i)
			}
			p.answers(p.save(), api.OK)
			b, _ := p.d.Read("idx")
			if len(b) != x.bytes {
				t.Errorf("%d entries: %d bytes, not %d", x.entries, len(b), x.bytes)
			}
			for i := range x.chunks {
				size := min(x.entries-64*i, 64) * 16
				if got := int(binary.BigEndian.Uint16(b[1030*i:])); got != size {
					t.Errorf("%d entries: the chunk %d has %d bytes, not %d", x.entries, i, got, size)
				}
			}
			p.file("idx", fileOf(p.r.has))
			p.has("idx")
			p.look()
		}
	}
}

// The file has what the index has, not what the log has.
func TestSaveOfWhatWasAdded(t *testing.T) {
	p := opened(t, example()...)
	p.logs(samples(1, 2)...)
	p.adds(6, 4)
	p.adds(0, 9000)
	p.answers(p.save(), api.OK)
	p.file("idx", fileOf([]entry{{0, 9000}, {3, 1}, {5, 0}, {5, 2}, {6, 4}}))
	p.tells(9000, 1, 0, 2, 4)
	p.answers(p.add(1, 9000), api.ErrOrder)
	if p.l.Safe() != 0 || p.l.Next() != 6 {
		t.Error("the log was synced, or has more")
	}
	p.look()

	p = opened(t, example()...)
	p.logs(samples(1, 2)...)
	p.answers(p.save(), api.OK)
	p.file("idx", fileOf([]entry{{3, 1}, {5, 0}, {5, 2}}))
	p.tells(1, 0, 2)
	p.adds(1, 4)
	p.look()
}

func TestSaveDrops(t *testing.T) {
	p := trimmed(t)
	p.answers(p.save(), api.OK)
	p.file("idx", fileOf([]entry{{5, 82}, {6, 83}}))
	p.tells(82, 83)
	p.answers(p.add(0, 83), api.ErrOrder)
	p.adds(0, 84)
	p.tells(84, 82, 83)
	p.look()

	// Each number about First, with times that fall and rise.
	for first := range 8 {
		p := openedOn(t, room, map[string]string{"log-1": chunks(samples(9, 8, 7)...) + chunkOf(row(1000, 1)), "log-2": chunks(samples(1, 2, 9)...)})
		p.adds(0, 10)
		p.answers(p.trims(first, 1), api.OK)
		p.answers(p.save(), api.OK)
		if first < 4 {
			p.tells(10, 4, 5, 2, 1, 0, 6)
		} else {
			p.tells(10, 4, 5, 6)
		}
		p.file("idx", fileOf(p.r.has))
		p.look()
	}
}

// If all are dropped, any number may be added.
func TestSaveDropsAll(t *testing.T) {
	p := opened(t, append(samples(5, 3, 5), row(1024, 1), row(1024, 2), row(1024, 3))...)
	p.syncs()
	p.answers(p.trims(most, 1), api.OK)
	p.tells(1, 0, 2)
	p.answers(p.save(), api.OK)
	if p.l.First() != 5 {
		t.Fatal(p.l.First())
	}
	p.tells()
	p.file("idx", "")
	p.adds(8, 0)
	p.adds(7, 3)
	p.answers(p.add(7, 2), api.ErrOrder)
	p.tells(3, 0)
	p.look()
	p.answers(p.save(), api.OK)
	p.tells()
	p.adds(7, 5)
	p.answers(p.save(), api.OK)
	p.tells(5)
	p.file("idx", fileOf([]entry{{7, 5}}))
	p.look()
}

// A Trim that drops nothing of what the index has, or nothing at all.
func TestSaveDropsNothing(t *testing.T) {
	p := opened(t, row(1024, 1), sample(5), sample(3), row(1024, 2), sample(5))
	p.syncs()
	p.answers(p.trims(1, 1), api.OK)
	p.answers(p.save(), api.OK)
	p.tells(2, 1, 4)
	p.answers(p.trims(2, 1), api.OK)
	p.answers(p.save(), api.OK)
	p.tells(2, 1, 4)
	p.look()
}

func TestSaveOverFilesOfAnyKind(t *testing.T) {
	for _, idx := range append(files(), "none") {
		for _, made := range append(files(), "none") {
			p := opened(t, example()...)
			p.syncs()
			if idx != "none" {
				p.lays("idx", idx)
			}
			if made != "none" {
				p.lays("idx.new", made)
			}
			p.answers(p.save(), api.OK)
			p.file("idx", fileOf([]entry{{3, 1}, {5, 0}, {5, 2}}))
			p.has("idx", "log-1")
			p.tells(1, 0, 2)
			p.wake(0)
			p.file("idx", fileOf([]entry{{3, 1}, {5, 0}, {5, 2}}))
			p.has("idx", "log-1")
		}
	}
}

func TestSaveLeavesOtherFiles(t *testing.T) {
	p := openedOn(t, room, other(), example()...)
	names := append(p.d.Names(), "idx")
	p.answers(p.save(), api.OK)
	p.has(slices.Sorted(slices.Values(names))...)
	p.look()
}

// Saved again it has the same bytes; and with more entries others.
func TestSaveAgain(t *testing.T) {
	p := opened(t)
	for i := range 200 {
		if i%3 == 0 {
			p.notes(i * 17 % 40)
		} else {
			p.logs(noRecords()[i%22])
		}
		if i%10 == 0 {
			p.answers(p.save(), api.OK)
			p.file("idx", fileOf(p.r.has))
			p.answers(p.save(), api.OK)
			p.file("idx", fileOf(p.r.has))
			p.look()
		}
	}
}

func TestSaveWithoutPower(t *testing.T) {
	for _, laid := range []map[string]string{{}, {"idx": "x"}, {"idx.new": "x"}, {"idx": "", "idx.new": "x"}} {
		p := opened(t, row(1024, 1), sample(5), sample(3), row(1024, 2), sample(5))
		p.syncs()
		p.answers(p.trims(most, 1), api.OK)
		for name, b := range laid {
			p.lays(name, b)
		}
		p.fails()
		for range 2 {
			p.answers(p.save(), api.ErrDown)
			p.tells(2, 1, 4) // nothing is dropped
			p.look()
		}
		p.did()
		for name, b := range laid {
			p.file(name, b)
		}
	}
}

// Where there is no room

// The file's bytes need room beside the one that stands there, and beside nothing else: idx.new is gone ahead of them.
func TestSaveRoom(t *testing.T) {
	whole := fileOf([]entry{{3, 1}, {5, 0}, {5, 2}})
	for _, idx := range []string{"none", "", "x", whole, row(300, 1)} {
		for _, made := range []string{"none", "", "x", whole[:53], whole, row(300, 2)} {
			for _, missing := range []int{0, 1, 5, 53, 54} {
				room := len(chunks(example()...)) + len(whole) - missing
				if idx != "none" {
					room += len(idx)
				}
				savesWithRoom(t, room, idx, made, missing > 0)
			}
		}
	}
}

// savesWithRoom saves the index of the examples where there is only so much room, with files that stand there.
func savesWithRoom(t *testing.T, room int, idx, made string, full bool) {
	t.Helper()
	p := openedOn(t, room, nil, example()...)
	if idx != "none" {
		p.lays("idx", idx)
	}
	if made != "none" {
		if len(made) > p.d.Free() {
			return
		}
		p.lays("idx.new", made)
	}
	switch {
	case !full:
		p.answers(p.save(), api.OK)
		p.file("idx", fileOf([]entry{{3, 1}, {5, 0}, {5, 2}}))
	case idx != "none":
		p.answers(p.save(), api.ErrFull)
		p.file("idx", idx)
	default:
		p.answers(p.save(), api.ErrFull)
		p.noFile("idx")
	}
	p.noFile("idx.new")
	p.tells(1, 0, 2)
	p.look()
	p.adds(4, 3)
	p.tells(1, 3, 0, 2)
}

// An index that had no room to be saved is used on, and saved as soon as there is some.
func TestSaveBehindErrFull(t *testing.T) {
	p := openedOn(t, 400, map[string]string{"big": row(280, 1)}, example()...)
	for i := range 5 {
		p.answers(p.save(), api.ErrFull)
		p.has("big", "log-1")
		p.adds(4-i, 3+i)
		p.answers(p.add(4, 3+i), api.ErrOrder)
		p.look()
	}
	p.same(p.d.Remove("big"), p.r.d.Remove("big"))
	p.answers(p.save(), api.OK)
	p.tells(7, 6, 5, 1, 4, 3, 0, 2)
	p.file("idx", fileOf(p.r.has))
	p.look()
	p.adds(4, 8)
	p.tells(7, 6, 5, 1, 4, 3, 8, 0, 2)
}

// What the log has dropped is dropped, though there is no room for the file.
func TestSaveDropsAndIsFull(t *testing.T) {
	p := opened(t, row(1024, 1), sample(5), sample(3), row(1024, 2), sample(5))
	p.syncs()
	p.answers(p.trims(most, 1), api.OK)
	p.lays("big", strings.Repeat("x", p.d.Free()))
	p.answers(p.save(), api.ErrFull)
	p.tells(4)
	p.has("big", "head", "log-3")
	p.look()
	p.same(p.d.Remove("big"), p.r.d.Remove("big"))
	p.answers(p.save(), api.OK)
	p.file("idx", fileOf([]entry{{5, 4}}))
	p.tells(4)
}

// A device has at most 64 files.
func TestSaveWithManyFiles(t *testing.T) {
	for _, x := range []struct {
		files   int // beside the log's
		idx     bool
		made    bool
		entries int
		want    api.Errno
	}{
		{62, false, false, 1, api.OK}, {62, true, false, 1, api.OK}, {63, false, false, 1, api.ErrFull}, {63, true, false, 1, api.ErrFull}, {63, false, true, 1, api.OK}, {63, true, true, 1, api.OK},
		{62, true, false, 0, api.OK}, {63, true, false, 0, api.ErrFull}, {63, false, true, 0, api.OK},
	} {
		p := opened(t, append(samples(5, 3)[:x.entries], "")...)
		n := x.files
		if x.idx {
			p.lays("idx", "old")
			n--
		}
		if x.made {
			p.lays("idx.new", "made")
			n--
		}
		for i := range n {
			p.lays(fmt.Sprint("file ", i), "")
		}
		p.answers(p.save(), x.want)
		switch {
		case x.want == api.OK:
			p.file("idx", fileOf([]entry{{5, 0}}[:x.entries]))
		case x.idx:
			p.file("idx", "old")
		default:
			p.noFile("idx")
		}
		p.noFile("idx.new")
		p.look()
	}
}

// R3

// What is told is new memory, also of an answer that was told ahead of it, and of the log's.
func TestRangeIsNewMemory(t *testing.T) {
	p := opened(t)
	for i := range 300 {
		p.notes(i % 50)
	}
	a, b := p.x.Range(0, 50, 0), p.x.Range(0, 50, 0)
	want := slices.Clone(a)
	for i := range a[:cap(a)] {
		a[:cap(a)][i] = -1
	}
	if !slices.Equal(b, want) || !slices.Equal(p.x.Range(0, 50, 0), want) {
		t.Error("two answers share memory, or the index keeps one")
	}
	c := p.x.Range(3, 9, 10)
	kept := slices.Clone(c)
	p.notes(3, 4, 5)
	p.answers(p.save(), api.OK)
	if !slices.Equal(c, kept) {
		t.Error("an answer was changed later")
	}
	p.look()
}

// The log is only read.
func TestTheLogStays(t *testing.T) {
	p := opened(t, append(example(), ofEachKind(9)...)...)
	p.adds(4, 900)
	p.answers(p.save(), api.OK)
	p.answers(p.open(), api.OK)
	for n, want := range append(example(), ofEachKind(9)...) {
		if b, errno := p.l.Get(n); string(b) != want || errno != 0 {
			t.Errorf("Get %d: %x, %d", n, b, errno)
		}
	}
	p.look()
}
