// Package intake is what machines have in common: what they ask for and what they
// refuse, and how chunks come to them, as bytes or as lines.
package intake

import (
	"bytes"

	"penstock/api"
	"penstock/line"
	"penstock/params"
)

// Check tells whether parameters may be those of a machine of this kind.
func Check(p api.Params, kind int) api.Errno {
	if e := params.Check(p); e != api.OK {
		return e
	}
	if p.Kind != kind {
		return api.ErrKind
	}
	return api.OK
}

// Tell makes an answer of lines, each with its end, for one output: of no lines, none.
func Tell(port int, lines ...string) []api.Out {
	if len(lines) == 0 {
		return nil
	}
	return []api.Out{{Port: port, Bytes: line.Join(lines...)}}
}

// TellBytes makes an answer of bytes as they are, for one output: of no bytes, none.
func TellBytes(port int, b ...byte) []api.Out {
	if len(b) == 0 {
		return nil
	}
	return []api.Out{{Port: port, Bytes: bytes.Clone(b)}}
}

// Reader is what reads one input at a time. A zero one reads input 0, till it is made
// to read another one, or is stopped. A machine that has pieces to tell sets Piece,
// which tells the next one; with the last one it makes the reader read on, or stops it,
// and so it does by an error.
type Reader struct {
	need  int
	Piece func() ([]api.Out, api.Errno)
}

// Need tells the input that is read next, api.More while pieces are due, or
// api.Ended.
func (r *Reader) Need() int { return r.need }

// Read makes it ask for this input from now on.
func (r *Reader) Read(port int) { r.need = port }

// Stop makes it ask for nothing any more: it has ended, or failed.
func (r *Reader) Stop() { r.need = api.Ended }

// TellPieces makes it ask for pieces, till it is stopped, or made to read on.
func (r *Reader) TellPieces() { r.need = api.More }

// More tells the next piece, if one is due.
func (r *Reader) More() ([]api.Out, api.Errno) {
	switch r.need {
	case api.Ended:
		return nil, api.ErrDone
	case api.More:
		return r.Piece()
	}
	return nil, api.ErrArg
}

// mayEnd tells why the end of this input may not come now. While pieces are due no
// input may, not even one of the number api.More, which is no port.
func (r *Reader) mayEnd(port int) api.Errno {
	if r.need == api.Ended {
		return api.ErrDone
	}
	if r.need == api.More || port != r.need {
		return api.ErrArg
	}
	return api.OK
}

// mayFeed tells why these bytes of this input may not come now.
func (r *Reader) mayFeed(port int, b []byte) api.Errno {
	if e := r.mayEnd(port); e != api.OK {
		return e
	}
	if len(b) == 0 || len(b) > api.MaxChunk {
		return api.ErrArg
	}
	return api.OK
}
