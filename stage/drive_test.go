package stage

import (
	"bytes"
	"reflect"
	"slices"
	"testing"

	"penstock/api"
	"penstock/params"
)

// lent is a copy of what is handed in, all of it in memory that is written over behind
// the call.
type lent struct {
	p api.Params
	s api.Script
}

// lend makes one.
func lend(p api.Params, s api.Script) lent {
	l := lent{p, api.Script{Panics: slices.Clone(s.Panics), Stops: slices.Clone(s.Stops)}}
	l.p.A, l.p.B = bytes.Clone(p.A), bytes.Clone(p.B)
	for _, o := range s.Sources {
		o.Bytes, o.Cuts = bytes.Clone(o.Bytes), slices.Clone(o.Cuts)
		l.s.Sources = append(l.s.Sources, o)
	}
	for _, o := range s.Files {
		o.Fails = slices.Clone(o.Fails)
		l.s.Files = append(l.s.Files, o)
	}
	return l
}

// spoil writes over all of it.
func (l lent) spoil() {
	spoil(l.p.A)
	spoil(l.p.B)
	for i, o := range l.s.Sources {
		spoil(o.Bytes)
		for k := range o.Cuts {
			o.Cuts[k] = 6
		}
		l.s.Sources[i] = api.Source{Bytes: []byte("!!!"), Fails: true, Id: 99}
	}
	for i := range l.s.Panics {
		l.s.Panics[i] = api.Trouble{}
	}
	for i := range l.s.Stops {
		l.s.Stops[i] = api.Trouble{}
	}
	for i, o := range l.s.Files {
		for k := range o.Fails {
			o.Fails[k] = api.FileFail{Id: 99}
		}
		l.s.Files[i] = api.FileScript{}
	}
}

// spoil writes over bytes, and over what stands behind them in memory.
func spoil(b []byte) {
	b = b[:cap(b)]
	for i := range b {
		b[i] = '!'
	}
}

// made makes a stage that must be one, of what is lent to New.
func made(t *testing.T, number int, p api.Params, s api.Script) *Stage {
	t.Helper()
	l := lend(p, s)
	x, e := New(number, l.p, l.s)
	if x == nil || e != api.OK {
		t.Fatalf("New(%d, %+v): %v, error %d; want a stage", number, p, x, e)
	}
	if want := lend(p, s); !reflect.DeepEqual(l, want) {
		t.Fatalf("New(%d, %+v) changed what was handed in: %+v; it was %+v", number, p, l, want)
	}
	l.spoil()
	return x
}

// driver hands a stage what its inputs tell.
type driver struct {
	*testing.T
	x       *Stage
	p       api.Params
	left    []api.Stream
	outs    [api.MaxPorts]string
	pesters bool
}

// driverOf makes one of a stage.
func driverOf(t *testing.T, x *Stage, p api.Params, ins ...api.Stream) *driver {
	return &driver{T: t, x: x, p: p, left: slices.Clone(ins)}
}

// look is what is seen of a stage: its next move, whose bytes are told as a text, how
// many bytes it holds, and what a sink took.
type look struct {
	end  ending
	text string
	held int
	sunk sunken
}

// look looks at a stage: twice, and writes over what was answered the first time.
func (d *driver) look() look {
	d.Helper()
	first, second := d.once(), d.once()
	if first != second {
		d.Fatalf("%+v: it answers %+v, and then %+v", d.p, first, second)
	}
	_, outs, _ := params.Arity(d.p)
	m := first.end
	if writes := m.kind == api.MoveWrite; writes != (first.text != "") || len(first.text) > api.MaxChunk || writes && (m.port < 0 || m.port >= outs) {
		d.Fatalf("%+v: Move %+v", d.p, first)
	}
	if m.kind != api.MoveFail && m.fault != (api.Fault{}) || (m.kind == api.MoveFail || m.kind == api.MoveEnd) && m.port != 0 {
		d.Fatalf("%+v: Move %+v", d.p, first)
	}
	bound, _ := params.Bound(d.p)
	if isHolder := d.p.Kind != api.KindSource && d.p.Kind != api.KindSink; first.held < 0 || first.held > bound+api.MaxAnswer || !isHolder && first.held != 0 {
		d.Fatalf("%+v: it holds %d bytes", d.p, first.held)
	}
	if d.p.Kind != api.KindSink && first.sunk != (sunken{}) {
		d.Fatalf("%+v: Sunk %+v", d.p, first.sunk)
	}
	return first
}

// once looks at a stage, and writes over what was answered.
func (d *driver) once() look {
	m, sunk := d.x.Move(), d.x.Sunk()
	l := look{
		end:  ending{m.Kind, m.Port, m.Fault},
		text: string(m.Bytes),
		held: d.x.Held(),
		sunk: sunken{string(sunk.Bytes), sunk.Ended, sunk.Err},
	}
	spoil(m.Bytes)
	spoil(sunk.Bytes)
	return l
}

// run hands on what the inputs tell, in chunks whose sizes come by turns, till the stage
// ends, fails, or asks for what has not been told, and answers what came.
func (d *driver) run(sizes ...int) come {
	d.Helper()
	for k := 0; ; k++ {
		d.pester()
		l := d.look()
		switch l.end.kind {
		case api.MoveWrite:
			d.outs[l.end.port] += l.text
			d.isDone("Wrote", d.x.Wrote())
		case api.MoveRead:
			if !d.handOn(l.end.port, sizes[k%len(sizes)]) {
				return come{d.outs, l.end, l.sunk}
			}
		default:
			return come{d.outs, l.end, l.sunk}
		}
	}
}

// handOn hands on a chunk of an input, or how it ends, and tells whether there is one.
func (d *driver) handOn(port, size int) bool {
	d.Helper()
	if port < 0 || port >= len(d.left) {
		d.Fatalf("%+v: it reads input %d", d.p, port)
	}
	in := &d.left[port]
	switch {
	case len(in.Bytes) > 0:
		size = min(size, len(in.Bytes))
		d.took(string(in.Bytes[:size]))
		in.Bytes = in.Bytes[size:]
	case in.Err.Code != api.OK:
		d.isDone("Broke", d.x.Broke(in.Err))
		*in = api.Stream{}
	case in.Ended:
		d.isDone("Over", d.x.Over())
		*in = api.Stream{}
	default:
		return false
	}
	return true
}

// took lends a chunk to the stage.
func (d *driver) took(text string) {
	d.Helper()
	memory := []byte(text + "????")
	d.isDone("Took", d.x.Took(memory[:len(text)]))
	if string(memory) != text+"????" {
		d.Fatalf("%+v: Took of %q changed it", d.p, text)
	}
	spoil(memory)
}

// isDone holds that a call did what it says.
func (d *driver) isDone(name string, did bool) {
	d.Helper()
	if !did {
		d.Fatalf("%+v: %s is false", d.p, name)
	}
}

// pester makes all calls that are to be refused now, if the driver is to.
func (d *driver) pester() {
	d.Helper()
	if d.pesters {
		d.refuses()
	}
}

// refuses makes all calls that are to be refused now: nothing changes by them.
func (d *driver) refuses() {
	d.Helper()
	before := d.look()
	refused := func(name string, did bool) {
		d.Helper()
		if now := d.look(); did || now != before {
			d.Fatalf("%+v: %s: %v, %+v; ahead of it %+v", d.p, name, did, now, before)
		}
	}
	chunks := [][]byte{nil, {}, []byte("x")[:0], bytes.Repeat([]byte("\n"), 33), make([]byte, 5000)}
	if before.end.kind != api.MoveRead {
		chunks = append(chunks, []byte("x"), []byte("\n"), make([]byte, 32))
		refused("Over", d.x.Over())
		refused("Broke", d.x.Broke(api.Fault{Code: api.ErrRaw, Stage: 3, Id: 4}))
		refused("Broke by none", d.x.Broke(api.Fault{}))
	}
	for _, b := range chunks {
		refused("Took", d.x.Took(b))
	}
	if before.end.kind != api.MoveWrite {
		refused("Wrote", d.x.Wrote())
	}
	if d.p.Kind != api.KindSort {
		d.x.Close()
		refused("Close", false)
	}
}

// run hands a new stage what inputs tell, likewise.
func run(t *testing.T, number int, p api.Params, s api.Script, ins []api.Stream, sizes ...int) come {
	t.Helper()
	return driverOf(t, made(t, number, p, s), p, ins...).run(sizes...)
}

// whole is an input that has ended.
func whole(text string) api.Stream { return api.Stream{Bytes: []byte(text), Ended: true} }

// wholes are inputs that have.
func wholes(texts ...string) []api.Stream {
	var ins []api.Stream
	for _, text := range texts {
		ins = append(ins, whole(text))
	}
	return ins
}

// open is an input that has not.
func open(text string) api.Stream { return api.Stream{Bytes: []byte(text)} }

// broken is an input that has failed.
func broken(text string, f api.Fault) api.Stream { return api.Stream{Bytes: []byte(text), Err: f} }
