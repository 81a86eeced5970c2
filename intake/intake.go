// Package intake is what machines have in common: what they ask for and what they
// refuse, and, of machines of lines, how chunks become lines.
package intake

import (
	"bytes"

	"penstock/api"
	"penstock/line"
	"penstock/params"
)

// lineEnd is the byte that ends a line.
const lineEnd = 10

// Check tells whether parameters may be those of a machine of this kind.
func Check(p api.Params, kind int) api.Errno {
	if e := params.Check(p); e != api.OK {
		return e
	}
	if p.Kind != kind {
		return api.ErrKind
	}
	return api.OK
}

// Tell makes an answer of lines, each with its end, for one output.
func Tell(port int, lines ...string) []api.Out {
	return []api.Out{{Port: port, Bytes: line.Join(lines...)}}
}

// Reader is what reads one input at a time. A zero one reads input 0, till it is
// stopped. A machine that has pieces to tell sets Piece, which tells the next one;
// with the last one it stops the reader.
type Reader struct {
	need  int
	Piece func() []api.Out
}

// Need tells the input that is read next, api.More while pieces are due, or
// api.Ended.
func (r *Reader) Need() int { return r.need }

// Stop makes it ask for nothing any more: it has ended, or failed.
func (r *Reader) Stop() { r.need = api.Ended }

// TellPieces makes it ask for pieces, till it is stopped.
func (r *Reader) TellPieces() { r.need = api.More }

// More tells the next piece, if one is due.
func (r *Reader) More() ([]api.Out, api.Errno) {
	switch r.need {
	case api.Ended:
		return nil, api.ErrDone
	case api.More:
		return r.Piece(), api.OK
	}
	return nil, api.ErrArg
}

// mayEnd tells why the end of this input may not come now. While pieces are due no
// input may, not even one of the number api.More, which is no port.
func (r *Reader) mayEnd(port int) api.Errno {
	if r.need == api.Ended {
		return api.ErrDone
	}
	if r.need == api.More || port != r.need {
		return api.ErrArg
	}
	return api.OK
}

// mayFeed tells why these bytes of this input may not come now.
func (r *Reader) mayFeed(port int, b []byte) api.Errno {
	if e := r.mayEnd(port); e != api.OK {
		return e
	}
	if len(b) == 0 || len(b) > api.MaxChunk {
		return api.ErrArg
	}
	return api.OK
}

// Lines is what machines of lines have in common: a reader of one input whose
// chunks are cut into lines. Each is what comes of a line; it may stop the reader.
type Lines struct {
	Reader
	line.Splitter
	Each func(text string) []api.Out
}

// Feed takes a chunk. It is cut line by line, so that nothing behind a line by
// which the machine stops is looked at.
func (l *Lines) Feed(port int, b []byte) ([]api.Out, api.Errno) {
	if e := l.mayFeed(port, b); e != api.OK {
		return nil, e
	}
	var outs []api.Out
	for len(b) > 0 && l.Need() != api.Ended {
		n := throughLineEnd(b)
		lines, e := l.Cut(b[:n])
		if e != api.OK {
			l.Stop()
			return outs, e
		}
		for _, text := range lines {
			outs = append(outs, l.Each(text)...)
		}
		b = b[n:]
	}
	return outs, api.OK
}

// End takes the input's end: what is begun is a line, if it has a byte.
func (l *Lines) End(port int) ([]api.Out, api.Errno) {
	if e := l.mayEnd(port); e != api.OK {
		return nil, e
	}
	var outs []api.Out
	if text, ok := l.Rest(); ok {
		outs = l.Each(text)
	}
	l.Stop()
	return outs, api.OK
}

// Held tells how many bytes the line that is begun has.
func (l *Lines) Held() int { return l.Begun() }

// throughLineEnd tells how many bytes there are up to the first end of a line, and
// with it; all of them, if there is none.
func throughLineEnd(b []byte) int {
	if i := bytes.IndexByte(b, lineEnd); i >= 0 {
		return i + 1
	}
	return len(b)
}
