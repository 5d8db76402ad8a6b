package segs

import (
	"strconv"
	"strings"

	"outstation/api"
	"outstation/chunk"
	"outstation/device"
	"outstation/pack"
)

// The files' names. That of the last segment has just as many bytes as a name may have.
const (
	headFile  = "head"
	logPrefix = "log-"
)

// The segments' N.
const (
	none         = 0
	firstSegment = 1
	lastSegment  = 999999999999
)

// The head's payload: two numbers.
const (
	numberSize = 8
	headSize   = 2 * numberSize
)

// segment is where a segment stands: its N, and the number of its first payload. The head says that of the first one.
type segment struct {
	n, begin int
}

// file is the name of its file.
func (s segment) file() string { return logPrefix + strconv.Itoa(s.n) }

// segmentOf is the N of the segment whose file has that name, or none.
func segmentOf(name string) int {
	n, err := strconv.Atoi(strings.TrimPrefix(name, logPrefix))
	// Held against the name that this N has, since a number may be written otherwise, too.
	if err != nil || n < firstSegment || name != (segment{n: n}).file() {
		return none
	}
	return n
}

// readHead is the first segment, as the head says it.
func readHead(d *device.Device) (segment, api.Errno) {
	b, errno := d.Read(headFile)
	if errno != api.OK {
		return segment{n: firstSegment}, api.OK
	}
	p, size, errno := chunk.Get(b)
	if errno != api.OK || size != len(b) || len(p) != headSize {
		return segment{}, api.ErrHead
	}
	n, _ := pack.Get(p, 0, numberSize)
	begin, _ := pack.Get(p, numberSize, numberSize)
	if n < firstSegment || n > lastSegment || begin > api.MaxSeq {
		return segment{}, api.ErrHead
	}
	return segment{n: int(n), begin: int(begin)}, api.OK
}

// head is the head's bytes that name a segment as the first one.
func (s segment) head() []byte {
	p, _ := pack.Put(nil, uint64(s.n), numberSize)
	p, _ = pack.Put(p, uint64(s.begin), numberSize)
	b, _ := chunk.Put(p)
	return b
}
