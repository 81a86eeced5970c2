package stage

import (
	"bytes"
	"errors"
	"testing"

	"penstock/api"
	"penstock/rig"
)

// wild is a machine that panics by itself, in the call of that name, behind so many that
// it answers.
type wild struct {
	api.Machine
	name  string
	good  int
	panic func()
}

// pass panics, if it is to.
func (w *wild) pass(name string) {
	if name != w.name {
		return
	}
	w.good--
	if w.good < 0 {
		w.panic()
	}
}

func (w *wild) Feed(port int, b []byte) ([]api.Out, api.Errno) {
	w.pass("Feed")
	return w.Machine.Feed(port, b)
}

func (w *wild) End(port int) ([]api.Out, api.Errno) {
	w.pass("End")
	return w.Machine.End(port)
}

func (w *wild) More() ([]api.Out, api.Errno) {
	w.pass("More")
	return w.Machine.More()
}

// gone makes a stage of this kind, whose machine is wild.
func gone(t *testing.T, p api.Params, s api.Script, name string, good int, panic func()) *Stage {
	t.Helper()
	x := made(t, 2, p, s)
	x.machine = &wild{x.machine, name, good, panic}
	return x
}

// panics are ways to panic.
func panics() []func() {
	var none []int
	var noMap map[int]int
	var noStage *Stage
	return []func(){
		func() { panic("wild") },
		func() { panic(errors.New("wild")) },
		func() { panic(nil) },
		func() { panic(7) },
		func() { panic(api.Fault{Code: api.ErrRaw, Stage: 5, Id: 6}) },
		func() { panic(api.Trouble{Stage: 2, Id: 6}) },
		func() { none[len(none)]++ },
		func() { noMap[1] = 2 },
		func() { noStage.number++ },
	}
}

// P19.3: a machine that panics by itself, in each call: the Id is -1, whatever it panics
// with, and what was pending is written.
func TestAMachineThatPanicsByItself(t *testing.T) {
	p := of(api.KindTail, 2)
	fault := fails(api.ErrPanic, 2, -1)
	for _, panic := range panics() {
		x := gone(t, p, none, "Feed", 0, panic)
		holdSteps(t, x, reads(0), took("a\nb", fault, 0))
		driverOf(t, x, p).refuses()
		holdSteps(t, gone(t, p, none, "Feed", 1, panic), reads(0),
			took("a\nb", reads(0), 2), took("\n", fault, 2))
		holdSteps(t, gone(t, p, none, "End", 0, panic), reads(0),
			took("a\nb", reads(0), 2), over(fault, 2))
		holdSteps(t, gone(t, p, none, "More", 0, panic), reads(0),
			took("a\nb", reads(0), 2), over(fault, 2))
		x = gone(t, p, none, "More", 1, panic)
		holdSteps(t, x, reads(0),
			took("a\nb", reads(0), 2), over(writes(0, "a\n"), 3), wrote(fault, 1))
		driverOf(t, x, p).refuses()
	}
}

// P19.3: neither its own trouble nor one that it would have met later is told then.
func TestAMachineThatPanicsAheadOfATrouble(t *testing.T) {
	p := of(api.KindTail, 2)
	for _, panic := range panics() {
		holdSteps(t, gone(t, p, panicsAt(0, 2, 5), "Feed", 0, panic), reads(0),
			took("abc", fails(api.ErrPanic, 2, -1), 0))
		holdSteps(t, gone(t, p, panicsAt(0, 0, 5), "Feed", 0, panic), reads(0),
			took("abc", fails(api.ErrPanic, 2, 5), 0))
		holdSteps(t, gone(t, p, panicsAt(0, 2, 5), "Feed", 1, panic), reads(0),
			took("a", reads(0), 1), took("b", fails(api.ErrPanic, 2, -1), 1))
	}
}

// P19.3: a sink whose machine panics has taken what it took ahead of that.
func TestASinkThatPanicsByItself(t *testing.T) {
	x := gone(t, of(api.KindSink, 0), none, "Feed", 1, panics()[0])
	holdSteps(t, x, reads(0), took("ab", reads(0), 0), took("c", fails(api.ErrPanic, 2, -1), 0))
	if s := x.Sunk(); string(s.Bytes) != "ab" || s.Ended || s.Err != (api.Fault{Code: api.ErrPanic, Stage: 2, Id: -1}) {
		t.Errorf("Sunk %+v", s)
	}
}

// P19.3: what the script says is a panic within the stage: it comes behind what was
// answered by the same call, and no call panics by it.
func TestAScriptsPanicIsCaught(t *testing.T) {
	text := rig.Word(8) + "\n"
	for at := range 60 {
		x := made(t, 2, of(api.KindSplit, 3), panicsAt(0, at, -1))
		c := driverOf(t, x, of(api.KindSplit, 3), whole(text+text+text+text+text+text+text)).run(31)
		if c.end != failing(api.ErrPanic, 2, -1) || len(c.outs[0]+c.outs[1]+c.outs[2]) != at/9*9 {
			t.Errorf("at %d: %+v", at, c)
		}
	}
}

// sour is a machine that fails by each chunk, and answers some of it beside; but it goes
// on asking for what it asked for.
type sour struct{ api.Machine }

func (sour) Feed(_ int, b []byte) ([]api.Out, api.Errno) {
	if len(b) == 1 {
		return nil, api.ErrGroup
	}
	return []api.Out{{Bytes: bytes.Clone(b[:len(b)/2])}}, api.ErrGroup
}

// P19.3: a machine's own error is what it fails by, also where the input is broken and
// the machine goes on asking for it.
func TestOneThatHasFailedMeetsNoTrouble(t *testing.T) {
	p := of(api.KindTail, 2)
	for text, out := range map[string]string{"x": "", "abcdef": "ab"} {
		x := made(t, 2, p, panicsAt(0, 4, 5))
		x.machine = sour{x.machine}
		if out == "" {
			holdSteps(t, x, reads(0), took(text, fails(api.ErrGroup, 2, 0), 0))
		} else {
			holdSteps(t, x, reads(0), took(text, writes(0, out), 2), wrote(fails(api.ErrGroup, 2, 0), 0))
		}
		driverOf(t, x, p).refuses()
	}
}
