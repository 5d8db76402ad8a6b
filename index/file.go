package index

import (
	"slices"

	"outstation/api"
	"outstation/chunk"
	"outstation/pack"
)

// fileName is the file's name.
const fileName = "idx"

const (
	numberSize   = 8
	chunkEntries = 64 // as many as a payload has room for
)

// fileOf is the bytes of the file of entries.
func fileOf(entries []api.Key) []byte {
	var b []byte
	for some := range slices.Chunk(entries, chunkEntries) {
		c, _ := chunk.Put(payload(some))
		b = append(b, c...)
	}
	return b
}

// payload is entries as bytes.
func payload(entries []api.Key) []byte {
	var b []byte
	for _, k := range entries {
		b, _ = pack.Put(b, uint64(k.Time), numberSize)
		b, _ = pack.Put(b, uint64(k.Seq), numberSize)
	}
	return b
}
