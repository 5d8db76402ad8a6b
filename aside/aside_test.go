package aside_test

import (
	"slices"
	"strings"
	"testing"

	"outstation/api"
	"outstation/aside"
	"outstation/device"
)

// The rules of chapters 14, 16 and 24 on how a file is made aside: P14.4, P16.3, P24.2.

// none is said of a file that is not there.
const none = "none"

// laid is a device with files, synced all: a and a.new, unless they are none.
func laid(t *testing.T, room int, whole, made string) *device.Device {
	t.Helper()
	d, errno := device.New(room)
	if errno != api.OK {
		t.Fatal(errno)
	}
	for name, b := range map[string]string{"a": whole, "a.new": made, "b": "other"} {
		if b == none {
			continue
		}
		if d.Append(name, []byte(b)) != api.OK || d.Sync(name) != api.OK {
			t.Fatal("no room for", name)
		}
	}
	return d
}

// has holds what stands in a and a.new against what is told outright, and that the other file is there.
func has(t *testing.T, d *device.Device, whole, made string) {
	t.Helper()
	for name, want := range map[string]string{"a": whole, "a.new": made, "b": "other"} {
		b, errno := d.Read(name)
		got := string(b)
		if errno == api.ErrNone {
			got = none
		}
		if got != want {
			t.Errorf("%s: %q, not %q", name, got, want)
		}
	}
	if n := len(d.Names()); n > 3 {
		t.Error(n, "files")
	}
}

func TestReplaceStepByStep(t *testing.T) {
	for _, old := range []string{none, "", "old"} {
		for _, made := range []string{none, "", "made"} {
			for _, b := range []string{"", "bytes", strings.Repeat("x", 500)} {
				for n := range 6 {
					replaceCutShort(t, old, made, b, n)
				}
			}
		}
	}
}

// replaceCutShort replaces a file, with power for so many operations, and holds what is there then, and behind a waking that keeps one byte of what was not synced.
func replaceCutShort(t *testing.T, old, made, b string, n int) {
	t.Helper()
	d := laid(t, 1000, old, made)
	removed := 0
	if made != none {
		removed = 1
	}
	d.Arm(n)
	want := api.Errno(api.ErrDown)
	if n >= removed+3 {
		want = api.OK
	}
	if errno := aside.Replace(d, "a", []byte(b)); errno != want || d.Down() != (want != api.OK) {
		t.Errorf("%d operations: %d", n, errno)
	}
	switch n - removed {
	case -1:
		has(t, d, old, made)
		d.Wake(1)
		has(t, d, old, made)
	case 0:
		has(t, d, old, none)
		d.Wake(1)
		has(t, d, old, none)
	case 1:
		has(t, d, old, b)
		d.Wake(1)
		has(t, d, old, b[:min(len(b), 1)])
	case 2:
		has(t, d, old, b)
		d.Wake(1)
		has(t, d, old, b)
	default:
		has(t, d, b, none)
		d.Wake(1)
		has(t, d, b, none)
	}
}

func TestReplaceDoesNoMore(t *testing.T) {
	for _, made := range []string{none, "made"} {
		d := laid(t, 1000, "old", made)
		n := 3
		if made != none {
			n = 4
		}
		d.Arm(n)
		if errno := aside.Replace(d, "a", []byte("x")); errno != api.OK {
			t.Error(errno)
		}
		if errno := d.Sync("a"); errno != api.ErrDown {
			t.Error(errno)
		}
		for range 2 {
			if aside.Replace(d, "a", []byte("y")) != api.ErrDown || aside.Clear(d, "a") != api.ErrDown {
				t.Error("without power")
			}
			has(t, d, "x", none)
		}
	}
}

func TestReplaceWithoutRoom(t *testing.T) {
	for _, old := range []string{none, "", "old"} {
		for _, made := range []string{none, "", "made"} {
			used := len("other")
			if old != none {
				used += len(old)
			}
			d := laid(t, used+4, old, made)
			if errno := aside.Replace(d, "a", []byte("bytes")); errno != api.ErrFull {
				t.Error(errno)
			}
			has(t, d, old, none)
			if errno := aside.Replace(d, "a", []byte("byte")); errno != api.OK {
				t.Error(errno)
			}
			has(t, d, "byte", none)
		}
	}
}

func TestClear(t *testing.T) {
	for _, old := range []string{none, "", "old"} {
		for _, made := range []string{"", "made"} {
			d := laid(t, 1000, old, made)
			d.Arm(0)
			if errno := aside.Clear(d, "a"); errno != api.ErrDown {
				t.Error(errno)
			}
			has(t, d, old, made)
			d.Wake(0)
			d.Arm(1)
			for range 2 { // that it is not there is no operation
				if errno := aside.Clear(d, "a"); errno != api.OK {
					t.Error(errno)
				}
				has(t, d, old, none)
			}
			if errno := d.Sync("b"); errno != api.ErrDown {
				t.Error(errno)
			}
			if errno := aside.Clear(d, "a"); errno != api.ErrDown {
				t.Error(errno)
			}
		}
	}
}

// What is handed in is not kept.
func TestReplaceKeepsNothing(t *testing.T) {
	d := laid(t, 1000, "old", none)
	b := []byte("bytes, and more")
	aside.Replace(d, "a", b[:5])
	if string(b) != "bytes, and more" {
		t.Error("changed")
	}
	copy(b, slices.Repeat([]byte("x"), len(b)))
	has(t, d, "bytes", none)
}
