package intake

import (
	"bytes"

	"penstock/api"
	"penstock/line"
)

// lineEnd is the byte that ends a line.
const lineEnd = 10

// Lines is what machines of lines have in common: a reader of one input whose
// chunks are cut into lines. Each is what comes of a line; it may stop the reader.
// Last, if a machine sets it, is what comes of the input's end, behind all lines.
type Lines struct {
	Reader
	line.Splitter
	Each func(text string) []api.Out
	Last func() []api.Out
}

// Feed takes a chunk. It is cut line by line, so that nothing behind a line by
// which the machine stops is looked at.
func (l *Lines) Feed(port int, b []byte) ([]api.Out, api.Errno) {
	if e := l.mayFeed(port, b); e != api.OK {
		return nil, e
	}
	var outs []api.Out
	for len(b) > 0 && l.Need() != api.Ended {
		n := throughLineEnd(b)
		lines, e := l.Cut(b[:n])
		if e != api.OK {
			l.Stop()
			return outs, e
		}
		for _, text := range lines {
			outs = append(outs, l.Each(text)...)
		}
		b = b[n:]
	}
	return outs, api.OK
}

// End takes the input's end: what is begun is a line, if it has a byte.
func (l *Lines) End(port int) ([]api.Out, api.Errno) {
	if e := l.mayEnd(port); e != api.OK {
		return nil, e
	}
	var outs []api.Out
	if text, ok := l.Rest(); ok {
		outs = l.Each(text)
	}
	if l.Last != nil {
		outs = append(outs, l.Last()...)
	}
	l.Stop()
	return outs, api.OK
}

// Held tells how many bytes the line that is begun has.
func (l *Lines) Held() int { return l.Begun() }

// throughLineEnd tells how many bytes there are up to the first end of a line, and
// with it; all of them, if there is none.
func throughLineEnd(b []byte) int {
	if i := bytes.IndexByte(b, lineEnd); i >= 0 {
		return i + 1
	}
	return len(b)
}
