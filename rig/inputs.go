package rig

import (
	"slices"
	"strconv"

	"penstock/api"
)

// Input is what a machine's input has told.
type Input struct {
	Text  string
	Ended bool
}

// String is what a test that fails tells of it.
func (in Input) String() string {
	if in.Ended {
		return strconv.Quote(in.Text) + " ended"
	}
	return strconv.Quote(in.Text)
}

// Ended is an input that has ended.
func Ended(text string) Input { return Input{Text: text, Ended: true} }

// Begun is an input that has not ended, or has failed.
func Begun(text string) Input { return Input{Text: text} }

// Whole makes inputs that have ended.
func Whole(texts ...string) []Input {
	var ins []Input
	for _, text := range texts {
		ins = append(ins, Input{text, true})
	}
	return ins
}

// Endings are the ways in which some of these inputs have ended, and others have not: one
// that has failed is one that has not ended, and of which no more comes.
func Endings(texts ...string) [][]Input {
	var all [][]Input
	for ended := range 1 << len(texts) {
		ins := Whole(texts...)
		for i := range ins {
			ins[i].Ended = ended>>i&1 == 1
		}
		all = append(all, ins)
	}
	return all
}

// OfOne makes what is to be seen of a machine by its inputs of what is to be seen of it
// by its only one.
func OfOne(reckon func(p api.Params, in Input) Seen) func(p api.Params, ins []Input) Seen {
	return func(p api.Params, ins []Input) Seen { return reckon(p, ins[0]) }
}

// RunOf hands a machine what inputs tell, in chunks whose sizes come by turns, till it
// has ended, or asks for what has not been told, and answers what was seen at last. What
// it did not ask for plays no part in that, but that it is not held.
func (s Subject) RunOf(t Test, p api.Params, ins []Input, sizes ...int) Seen {
	t.Helper()
	d := s.Drive(t, p)
	d.RunOf(ins, sizes...)
	d.compareButHeld(ins)
	return d.Seen
}

// RunOf hands on what inputs tell, likewise.
func (d *Driver) RunOf(ins []Input, sizes ...int) Seen {
	d.test.Helper()
	left := slices.Clone(ins)
	for k := 0; isTold(left, d.Seen.Need); k++ {
		if chunk := take(left, d.Seen.Need, sizes[k%len(sizes)]); chunk != "" {
			d.Feed(chunk)
		} else {
			d.End()
		}
	}
	d.pester()
	return d.Seen
}

// isTold tells whether something is left of what this input tells: bytes, or its end.
func isTold(left []Input, need int) bool {
	return need >= 0 && need < len(left) && left[need] != Input{}
}

// take takes a chunk of at most so many bytes from what is left of this input: one
// without bytes is its end.
func take(left []Input, port, most int) string {
	in := &left[port]
	if in.Text == "" {
		in.Ended = false
	}
	chunk := in.Text[:min(most, len(in.Text))]
	in.Text = in.Text[len(chunk):]
	return chunk
}

// handOn hands a machine what inputs tell, and asks it for its pieces, without a look
// at the denotation. All chunks come in the same memory. It answers what is left of the
// inputs.
func handOn(m api.Machine, ins []Input, size int, keep func(outs []api.Out, e api.Errno)) []Input {
	left := slices.Clone(ins)
	memory := make([]byte, size)
	for {
		switch need := m.Need(); {
		case need == api.More:
			keep(m.More())
		case !isTold(left, need):
			return left
		default:
			if n := copy(memory, take(left, need, size)); n > 0 {
				keep(m.Feed(need, memory[:n]))
			} else {
				keep(m.End(need))
			}
		}
	}
}

// orders are orders in which inputs come to tell what they tell, each of them a byte or
// its end at a time: one behind the other, the last one first, and by turns.
func orders(ins []Input) [][]int {
	var behind, byTurns []int
	longest := 0
	for i, in := range ins {
		behind = append(behind, slices.Repeat([]int{i}, len(in.Text)+1)...)
		longest = max(longest, len(in.Text))
	}
	if len(ins) == 1 {
		return [][]int{behind}
	}
	for range longest + 1 {
		for i := range ins {
			byTurns = append(byTurns, i)
		}
	}
	lastFirst := slices.Clone(behind)
	slices.Reverse(lastFirst)
	return [][]int{behind, lastFirst, byTurns}
}

// grow makes what has come of an input a byte longer, or, if all of them have come, as
// ended as that is.
func grow(came, all Input) Input {
	if came.Text == all.Text {
		return all
	}
	return Input{Text: all.Text[:len(came.Text)+1]}
}

// HoldGrowthOf runs machines by ever more of their inputs, in several orders: what came
// of a byte or an end less is a beginning of what comes.
func (s Subject) HoldGrowthOf(t Test, p api.Params, ins []Input) {
	t.Helper()
	for _, order := range orders(ins) {
		came := make([]Input, len(ins))
		before := s.RunOf(t, p, came, 16)
		for _, i := range order {
			came[i] = grow(came[i], ins[i])
			seen := s.RunOf(t, p, came, 16)
			if !seen.goesOnFrom(before) || before.Need == api.Ended && seen != before {
				t.Fatalf("%+v, inputs %v: %+v; a step ahead: %+v", p, came, seen, before)
			}
			before = seen
		}
	}
}
