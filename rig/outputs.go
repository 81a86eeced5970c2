package rig

import (
	"strings"

	"penstock/api"
	"penstock/params"
)

// Outputs makes what is seen of a machine that reads input 0, holds nothing, and of whose
// outputs these texts came, by their numbers.
func Outputs(texts ...string) Seen {
	var seen Seen
	for port, text := range texts {
		seen = seen.with(api.Out{Port: port, Bytes: []byte(text)})
	}
	return seen
}

// with puts bytes behind what came out of their output.
func (s Seen) with(o api.Out) Seen {
	if o.Port == 0 {
		s.Out += string(o.Bytes)
	} else {
		s.Others[o.Port-1] += string(o.Bytes)
	}
	return s
}

// withAll puts an answer's bytes behind what came out of their outputs.
func (s Seen) withAll(outs []api.Out) Seen {
	for _, o := range outs {
		s = s.with(o)
	}
	return s
}

// outputs is all that came out of each output, by their numbers.
func (s Seen) outputs() [api.MaxPorts]string {
	all := [api.MaxPorts]string{s.Out}
	copy(all[1:], s.Others[:])
	return all
}

// goesOnFrom tells whether what came out of each output ahead of it is a beginning of
// what has come out of that now.
func (s Seen) goesOnFrom(before Seen) bool {
	now := s.outputs()
	for port, text := range before.outputs() {
		if !strings.HasPrefix(now[port], text) {
			return false
		}
	}
	return true
}

// holdOuts makes sure that an answer is bytes for outputs that there are.
func holdOuts(t Test, p api.Params, outs []api.Out) {
	t.Helper()
	_, count, _ := params.Arity(p)
	holdPorts(t, outs, count)
}

// holdPorts makes sure that an answer is bytes for so many outputs.
func holdPorts(t Test, outs []api.Out, count int) {
	t.Helper()
	for _, o := range outs {
		if o.Port < 0 || o.Port >= count || len(o.Bytes) == 0 {
			t.Fatalf("Out %+v; want bytes, for one of %d outputs", o, count)
		}
	}
}
