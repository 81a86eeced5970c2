package stage

import (
	"bytes"
	"slices"

	"penstock/api"
	"penstock/files"
	"penstock/intake"
)

// diskOf makes the disk of a sort.
func diskOf(number int, s api.Script) *files.Disk {
	for _, f := range s.Files {
		if f.Stage == number {
			return files.New(f.Fails...)
		}
	}
	return files.New()
}

// sourceOf answers what the script has of that source: nothing, if there is no such one.
func sourceOf(n int, s api.Script) api.Source {
	if n < len(s.Sources) {
		return s.Sources[n]
	}
	return api.Source{}
}

// source is a machine that reads no input, and tells a source's chunks, a chunk a piece.
// What befalls it behind the last one has the Code OK, if that is nothing.
type source struct {
	intake.Bytes
	left   []byte
	cuts   []int
	chunks int
	behind trouble
}

// newSource makes the machine of a source, whose bytes go to that output.
func newSource(number int, s api.Source, out *port) *source {
	m := &source{left: bytes.Clone(out.cut(s.Bytes)), cuts: slices.Clone(s.Cuts)}
	switch {
	case out.broken:
		m.behind = out.trouble
	case s.Fails:
		m.behind = trouble{fault: api.Fault{Code: api.ErrRaw, Stage: number, Id: s.Id}}
	}
	m.Piece = m.tellChunk
	m.TellPieces()
	return m
}

// tellChunk tells the next chunk. Behind the last one it ends, or what befalls it does.
func (m *source) tellChunk() ([]api.Out, api.Errno) {
	if len(m.left) == 0 {
		if m.behind.fault.Code != api.OK {
			panic(m.behind)
		}
		m.Stop()
		return nil, api.OK
	}
	size := min(m.size(), len(m.left))
	outs := intake.TellBytes(0, m.left[:size]...)
	m.left = m.left[size:]
	m.chunks++
	return outs, api.OK
}

// size tells how many bytes the next chunk has, if there are so many. What is left of the
// least number by MaxChunk is 0, as the one of which it has no opposite is to count.
func (m *source) size() int {
	if len(m.cuts) == 0 {
		return api.MaxChunk
	}
	rest := m.cuts[m.chunks%len(m.cuts)] % api.MaxChunk
	return max(rest, -rest) + 1
}

// sink is a machine that tells nothing, and keeps what comes.
type sink struct {
	intake.Bytes
	taken []byte
}

// newSink makes the machine of a sink.
func newSink() *sink {
	m := &sink{}
	m.Each = m.take
	return m
}

// take keeps a chunk's bytes.
func (m *sink) take(b ...byte) []api.Out {
	m.taken = append(m.taken, b...)
	return nil
}
