package rig

import (
	"slices"
	"strings"

	"penstock/api"
	"penstock/params"
)

// Text is an answer's bytes.
func Text(outs []api.Out) string {
	text := ""
	for _, o := range outs {
		text += string(o.Bytes)
	}
	return text
}

// Told is all that a machine tells of a whole input, by chunks of one size, without a
// look at the denotation: it must read all of that.
func (s Subject) Told(t Test, p api.Params, input string, size int) string {
	t.Helper()
	return s.ToldOf(t, p, size, input)
}

// ToldOf is all that a machine tells of whole inputs, likewise.
func (s Subject) ToldOf(t Test, p api.Params, size int, inputs ...string) string {
	t.Helper()
	return s.toldWhole(t, p, size, inputs).Out
}

// ToldEach is all that a machine tells each of its outputs of a whole input, likewise.
func (s Subject) ToldEach(t Test, p api.Params, input string, size int) []string {
	t.Helper()
	_, count, _ := params.Arity(p)
	all := s.toldWhole(t, p, size, []string{input}).outputs()
	return all[:count]
}

// ToldOfSome is all that a machine tells of whole inputs, likewise; but it need not read
// all of them.
func (s Subject) ToldOfSome(t Test, p api.Params, size int, inputs ...string) string {
	t.Helper()
	seen, _ := s.told(t, p, size, inputs)
	return seen.Out
}

// toldWhole is what is seen of a machine that has told all that it tells of whole inputs,
// and has read all of them.
func (s Subject) toldWhole(t Test, p api.Params, size int, inputs []string) Seen {
	t.Helper()
	seen, left := s.told(t, p, size, inputs)
	for _, in := range left {
		if in != (Input{}) {
			t.Fatalf("%+v, inputs %q: not read: %v", p, inputs, left)
		}
	}
	return seen
}

// told is what is seen of a machine that has told all that it tells of whole inputs, and
// has ended, and what is left of them.
func (s Subject) told(t Test, p api.Params, size int, inputs []string) (Seen, []Input) {
	t.Helper()
	m := s.Make(t, p)
	var seen Seen
	left := handOn(m, Whole(inputs...), size, func(outs []api.Out, e api.Errno) {
		if e != api.OK {
			t.Fatalf("%+v, inputs %q, behind %q: error %d", p, inputs, seen.outputs(), e)
		}
		holdOuts(t, p, outs)
		seen = seen.withAll(outs)
	})
	if m.Need() != api.Ended {
		t.Fatalf("%+v, inputs %q: Need %d; not read: %v", p, inputs, m.Need(), left)
	}
	return seen, left
}

// Take hands a machine a chunk, and holds what comes of it, and how many bytes are held
// then, against what is to be: it must read on behind it.
func Take(t Test, m api.Machine, chunk, out string, held int) {
	t.Helper()
	outs, e := m.Feed(0, []byte(chunk))
	if Text(outs) != out || e != api.OK || m.Need() != 0 || m.Held() != held {
		t.Fatalf("%q: %q, error %d, Need %d, Held %d; want %q, Held %d", chunk, Text(outs), e, m.Need(), m.Held(), out, held)
	}
}

// HoldChunks runs a machine by chunks of every size, and of several: what is seen at
// last is the same, but for what it holds of chunks that it has read ahead.
func (s Subject) HoldChunks(t Test, p api.Params, input string) {
	t.Helper()
	s.HoldChunksOf(t, p, Whole(input))
}

// HoldChunksOf runs a machine of such inputs, likewise.
func (s Subject) HoldChunksOf(t Test, p api.Params, ins []Input) {
	t.Helper()
	want := s.RunOf(t, p, ins, 1)
	ways := [][]int{{1, 32, 2, 31, 3, 17}, {32, 32, 1}, {32, 1}, {1, 2, 3}, {5, 9, 2, 30}}
	for size := 2; size <= api.MaxChunk; size++ {
		ways = append(ways, []int{size})
	}
	for _, sizes := range ways {
		got := s.RunOf(t, p, ins, sizes...)
		got.Held = want.Held
		if got != want {
			t.Fatalf("%+v, inputs %v by chunks of %v: %+v; of 1: %+v", p, ins, sizes, got, want)
		}
	}
}

// HoldRefusals runs a machine with all calls that are to be refused at each step, so
// that what goes on behind them shows that they change nothing.
func (s Subject) HoldRefusals(t Test, p api.Params, input string) {
	t.Helper()
	s.HoldRefusalsOf(t, p, Whole(input))
}

// HoldRefusalsOf runs a machine of such inputs, likewise.
func (s Subject) HoldRefusalsOf(t Test, p api.Params, ins []Input) {
	t.Helper()
	for _, size := range []int{1, 2, 3, 7, 32} {
		d := s.Drive(t, p)
		d.Pesters = true
		d.RunOf(ins, size)
	}
}

// HoldAnswers hands a machine a whole input, all chunks in the same memory, and keeps
// what is answered: in the end that is what it was when it came.
func (s Subject) HoldAnswers(t Test, p api.Params, input string, size int) {
	t.Helper()
	s.HoldAnswersOf(t, p, Whole(input), size)
}

// HoldAnswersOf hands a machine such inputs, likewise.
func (s Subject) HoldAnswersOf(t Test, p api.Params, ins []Input, size int) {
	t.Helper()
	var kept [][]api.Out
	var came []string
	handOn(s.Make(t, p), ins, size, func(outs []api.Out, _ api.Errno) {
		kept = append(kept, outs)
		came = append(came, Text(outs))
	})
	for i, outs := range kept {
		if now := Text(outs); now != came[i] {
			t.Fatalf("%+v: answer %d was %q, and is %q now", p, i, came[i], now)
		}
	}
}

// HoldApart writes over each of these, and over what stands behind it in memory: the
// others stay as they are.
func HoldApart(t Test, kept ...api.Out) {
	t.Helper()
	for i, o := range kept {
		before := Text(slices.Concat(kept[:i], kept[i+1:]))
		spoil(o.Bytes[:cap(o.Bytes)])
		if now := Text(slices.Concat(kept[:i], kept[i+1:])); now != before {
			t.Fatalf("the others were %q, and are %q now", before, now)
		}
	}
}

// HoldTooLong hands machines, behind chunks by which nothing comes out, a line that is
// too long by each byte of a chunk, in which there come others behind it, ends of lines
// too.
func (s Subject) HoldTooLong(t Test, p api.Params, ahead ...string) {
	t.Helper()
	for at := 1; at <= api.MaxChunk; at++ {
		for _, fill := range []string{"x", "\n"} {
			d := s.Drive(t, p)
			for _, chunk := range ahead {
				d.Feed(chunk)
			}
			line := strings.Repeat("y", api.MaxLine+1-at)
			d.Feed(line[:api.MaxChunk])
			d.Feed(line[api.MaxChunk:])
			d.Feed(strings.Repeat("y", at) + strings.Repeat(fill, api.MaxChunk-at))
			if d.Seen != (Seen{Need: api.Ended, Err: api.ErrLong}) {
				d.wrong("by byte %d of a chunk: %+v; want ErrLong, and nothing held", at, d.Seen)
			}
		}
	}
}

// HoldGrowth runs machines by each beginning of an input, and by all of it and its end:
// what came of a step less is a beginning of what comes.
func (s Subject) HoldGrowth(t Test, p api.Params, input string) {
	t.Helper()
	s.HoldGrowthOf(t, p, Whole(input))
}

// Sizes makes sizes of chunks of any bytes, one at least.
func Sizes(cuts []byte) []int {
	sizes := []int{api.MaxChunk}
	for _, c := range cuts {
		sizes = append(sizes, int(c)%api.MaxChunk+1)
	}
	return sizes
}
