// Package rig is for the tests of machines: it hands a machine what it asks for, and
// holds what is seen of it at each step against the denotation. No layer calls it.
package rig

import (
	"slices"

	"penstock/api"
	"penstock/params"
)

// Test is what is needed of a test: a *testing.T is one.
type Test interface {
	Helper()
	Fatalf(format string, args ...any)
}

// Seen is what is seen of a machine: all that came out of output 0, what it asks for,
// the error by which it failed, how many bytes it holds, and all that came out of the
// other outputs, from 1 on.
type Seen struct {
	Out    string
	Need   int
	Err    api.Errno
	Held   int
	Others [api.MaxPorts - 1]string
}

// Subject is machines of one kind: how they are made, and what is to be seen of one
// that has heard so much of its inputs, and has no more pieces to tell.
type Subject struct {
	New    func(p api.Params) (api.Machine, api.Errno)
	Reckon func(p api.Params, ins []Input) Seen
}

// Driver drives one machine. Seen is what was seen by the last step, Answers are all
// answers that were not empty.
type Driver struct {
	Machine api.Machine
	Seen    Seen
	Answers []string

	// Pesters makes it make all calls that are to be refused ahead of each step, and
	// behind the last one.
	Pesters bool

	test    Test
	subject Subject
	p       api.Params
	ins     []Input
}

// Make makes a machine that must be one. The parameters' bytes are lent to New.
func (s Subject) Make(t Test, p api.Params) api.Machine {
	t.Helper()
	lent := api.Params{Kind: p.Kind, N: p.N, A: lend(p.A), B: lend(p.B)}
	m, e := s.New(lent)
	if e != api.OK || m == nil {
		t.Fatalf("New of %+v: %v, error %d; want a machine", p, m, e)
	}
	if isChanged(lent.A, p.A) || isChanged(lent.B, p.B) {
		t.Fatalf("New of %+v changed A or B", p)
	}
	return m
}

// Drive makes a machine, and its driver.
func (s Subject) Drive(t Test, p api.Params) *Driver {
	t.Helper()
	count, _, _ := params.Arity(p)
	d := &Driver{Machine: s.Make(t, p), test: t, subject: s, p: p, ins: make([]Input, count)}
	d.note(nil, api.OK)
	d.compare()
	return d
}

// Run hands a machine a whole input, in chunks whose sizes come by turns, as long as it
// asks for it, and answers what was seen at last.
func (s Subject) Run(t Test, p api.Params, input string, sizes ...int) Seen {
	t.Helper()
	return s.RunOf(t, p, Whole(input), sizes...)
}

// Run hands on a whole input, likewise.
func (d *Driver) Run(input string, sizes ...int) Seen {
	d.test.Helper()
	return d.RunOf(Whole(input), sizes...)
}

// Feed hands on a chunk of the input that is asked for, and asks for the pieces that
// are due by it.
func (d *Driver) Feed(chunk string) {
	d.test.Helper()
	d.pester()
	port := d.port()
	outs, e := d.feed(port, []byte(chunk))
	d.ins[port].Text += chunk
	d.note(outs, e)
	d.takePieces()
}

// port is the input that is asked for: it must be one, and not have ended.
func (d *Driver) port() int {
	d.test.Helper()
	need := d.Seen.Need
	if need < 0 || need >= len(d.ins) || d.ins[need].Ended {
		d.wrong("Need is %d, while there is more to hand on", need)
	}
	return need
}

// feed lends a chunk to the machine.
func (d *Driver) feed(port int, chunk []byte) ([]api.Out, api.Errno) {
	d.test.Helper()
	lent := lend(chunk)
	outs, e := d.Machine.Feed(port, lent)
	if isChanged(lent, chunk) {
		d.wrong("Feed of %q changed it", chunk)
	}
	return outs, e
}

// End tells that the input that is asked for has ended, and asks for the pieces that
// are due by that.
func (d *Driver) End() {
	d.test.Helper()
	d.pester()
	port := d.port()
	d.ins[port].Ended = true
	d.note(d.Machine.End(port))
	d.takePieces()
}

// takePieces asks for pieces, as long as some are due: each must tell something that
// is due.
func (d *Driver) takePieces() {
	d.test.Helper()
	for d.Seen.Err == api.OK && d.Seen.Need == api.More {
		d.pester()
		before := d.Seen.outputs()
		d.note(d.Machine.More())
		if d.Seen.outputs() == before && d.Seen.Err == api.OK {
			d.wrong("a piece without bytes")
		}
		if want := d.subject.Reckon(d.p, d.ins); !want.goesOnFrom(d.Seen) {
			d.wrong("%q came out by a piece; want beginnings of %q", d.Seen.outputs(), want.outputs())
		}
	}
	d.compare()
}

// compare holds what was seen against the denotation of what was handed in. What one that
// has failed holds is left to it, within its bound.
func (d *Driver) compare() {
	d.test.Helper()
	want := d.subject.Reckon(d.p, d.ins)
	if want.Err != api.OK {
		want.Held = d.Seen.Held
	}
	d.seenIs(want)
}

// compareButHeld holds what was seen, but for what is held, against the denotation of
// what inputs tell, of which some may not have been handed in.
func (d *Driver) compareButHeld(ins []Input) {
	d.test.Helper()
	want := d.subject.Reckon(d.p, ins)
	want.Held = d.Seen.Held
	d.seenIs(want)
}

// seenIs holds what was seen against what was to be.
func (d *Driver) seenIs(want Seen) {
	d.test.Helper()
	if d.Seen != want {
		d.wrong("%+v; want %+v", d.Seen, want)
	}
}

// note puts an answer behind those that came, and then writes over it: if that were
// the machine's own memory, what comes later would tell it.
func (d *Driver) note(outs []api.Out, e api.Errno) {
	d.test.Helper()
	holdOuts(d.test, d.p, outs)
	text := Text(outs)
	d.Seen = d.Seen.withAll(outs)
	for i, o := range outs {
		spoil(o.Bytes[:cap(o.Bytes)])
		outs[i] = api.Out{Port: 77}
	}
	if len(text) > api.MaxAnswer {
		d.wrong("an answer of %d bytes", len(text))
	}
	if text != "" {
		d.Answers = append(d.Answers, text)
	}
	d.Seen.Need, d.Seen.Err, d.Seen.Held = d.Machine.Need(), e, d.Machine.Held()
	if bound, _ := params.Bound(d.p); d.Seen.Held < 0 || d.Seen.Held > bound {
		d.wrong("it holds %d bytes; at most %d", d.Seen.Held, bound)
	}
}

// wrong ends the test, and tells by what.
func (d *Driver) wrong(format string, args ...any) {
	d.test.Helper()
	at := []any{d.p, d.ins}
	d.test.Fatalf("%+v, inputs %v: "+format, append(at, args...)...)
}

// behind stands in memory behind bytes that are lent.
const behind = "????????"

// lend makes bytes that are handed in: such as are nil stay so.
func lend(b []byte) []byte {
	if b == nil {
		return nil
	}
	return append(slices.Clone(b), behind...)[:len(b)]
}

// isChanged tells whether what was lent, or what stands behind it, is another than it
// was, and then writes over it: if it were kept, what comes later would tell it.
func isChanged(lent, b []byte) bool {
	if lent == nil {
		return false
	}
	memory := lent[:len(b)+len(behind)]
	changed := string(memory) != string(b)+behind
	spoil(memory)
	return changed
}

// spoil writes over bytes.
func spoil(b []byte) {
	for i := range b {
		b[i] = '!'
	}
}
