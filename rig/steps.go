package rig

import "penstock/api"

// Step is a call that is due, and what is to be seen behind it.
type Step struct {
	chunk string
	seen  Seen
}

// The chunks by which a step is no Feed.
const (
	End   = "."
	Piece = "+"
)

// Behind makes the step of a chunk of the input that is asked for, or of End, or Piece,
// what comes out by it alone, and what the machine asks for and holds then.
func Behind(chunk, out string, need, held int) Step {
	return Step{chunk, Seen{Out: out, Need: need, Held: held}}
}

// BehindEach makes such a step of a machine of several outputs, by what comes out of each
// of them, by their numbers.
func BehindEach(chunk string, need, held int, outs ...string) Step {
	seen := Outputs(outs...)
	seen.Need, seen.Held = need, held
	return Step{chunk, seen}
}

// Fails makes the step of a call by which a machine fails, and holds nothing any more.
func Fails(chunk, out string, e api.Errno) Step {
	return Step{chunk, Seen{Out: out, Need: api.Ended, Err: e}}
}

// HoldSteps makes the calls of a machine, and holds what comes of each against what is to
// come.
func HoldSteps(t Test, m api.Machine, steps ...Step) {
	t.Helper()
	for k, s := range steps {
		need := m.Need()
		if (s.chunk == Piece) != (need == api.More) {
			t.Fatalf("step %d, %q: Need %d", k, s.chunk, need)
		}
		outs, e := s.call(m)
		holdPorts(t, outs, api.MaxPorts)
		if seen := (Seen{Need: m.Need(), Err: e, Held: m.Held()}).withAll(outs); seen != s.seen {
			t.Fatalf("step %d, %q of %d: %+v; want %+v", k, s.chunk, need, seen, s.seen)
		}
	}
}

// call makes the step's call.
func (s Step) call(m api.Machine) ([]api.Out, api.Errno) {
	switch s.chunk {
	case End:
		return m.End(m.Need())
	case Piece:
		return m.More()
	}
	return m.Feed(m.Need(), []byte(s.chunk))
}
