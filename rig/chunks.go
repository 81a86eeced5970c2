package rig

import (
	"strings"

	"penstock/api"
)

// Text is an answer's bytes.
func Text(outs []api.Out) string {
	text := ""
	for _, o := range outs {
		text += string(o.Bytes)
	}
	return text
}

// Told is all that a machine tells of a whole input, by chunks of one size, without a
// look at the denotation: it must read all of that, and have no pieces to tell.
func (s Subject) Told(t Test, p api.Params, input string, size int) string {
	t.Helper()
	m := s.Make(t, p)
	text := ""
	for at := 0; at < len(input); at += size {
		outs, e := m.Feed(0, []byte(input[at:min(at+size, len(input))]))
		if e != api.OK {
			t.Fatalf("%+v, input %q, behind byte %d: error %d", p, input, at, e)
		}
		text += Text(outs)
	}
	outs, e := m.End(0)
	if e != api.OK || m.Need() != api.Ended {
		t.Fatalf("%+v, the end of input %q: error %d, Need %d", p, input, e, m.Need())
	}
	return text + Text(outs)
}

// Take hands a machine a chunk, and holds what comes of it, and how many bytes are held
// then, against what is to be: it must read on behind it.
func Take(t Test, m api.Machine, chunk, out string, held int) {
	t.Helper()
	outs, e := m.Feed(0, []byte(chunk))
	if Text(outs) != out || e != api.OK || m.Need() != 0 || m.Held() != held {
		t.Fatalf("%q: %q, error %d, Need %d, Held %d; want %q, Held %d", chunk, Text(outs), e, m.Need(), m.Held(), out, held)
	}
}

// HoldChunks runs a machine by chunks of every size, and of several: what is seen at
// last is the same.
func (s Subject) HoldChunks(t Test, p api.Params, input string) {
	t.Helper()
	want := s.Run(t, p, input, 1)
	ways := [][]int{{1, 32, 2, 31, 3, 17}, {32, 32, 1}, {32, 1}, {1, 2, 3}, {5, 9, 2, 30}}
	for size := 2; size <= api.MaxChunk; size++ {
		ways = append(ways, []int{size})
	}
	for _, sizes := range ways {
		if got := s.Run(t, p, input, sizes...); got != want {
			t.Fatalf("%+v, input %q by chunks of %v: %+v; of 1: %+v", p, input, sizes, got, want)
		}
	}
}

// HoldRefusals runs a machine with all calls that are to be refused at each step, so
// that what goes on behind them shows that they change nothing.
func (s Subject) HoldRefusals(t Test, p api.Params, input string) {
	t.Helper()
	for _, size := range []int{1, 2, 3, 7, 32} {
		d := s.Drive(t, p)
		d.Pesters = true
		d.Run(input, size)
	}
}

// HoldAnswers hands a machine a whole input, all chunks in the same memory, and keeps
// what is answered: in the end that is what it was when it came.
func (s Subject) HoldAnswers(t Test, p api.Params, input string, size int) {
	t.Helper()
	m := s.Make(t, p)
	var kept [][]api.Out
	var came []string
	keep := func(outs []api.Out, _ api.Errno) {
		kept = append(kept, outs)
		came = append(came, Text(outs))
	}
	chunk := make([]byte, size)
	for ended := false; m.Need() != api.Ended && !ended; {
		n := copy(chunk, input)
		input = input[n:]
		if ended = n == 0; ended {
			keep(m.End(0))
		} else {
			keep(m.Feed(0, chunk[:n]))
		}
		for m.Need() == api.More {
			keep(m.More())
		}
	}
	for i, outs := range kept {
		if now := Text(outs); now != came[i] {
			t.Fatalf("%+v: answer %d was %q, and is %q now", p, i, came[i], now)
		}
	}
}

// HoldGrowth drives machines with each beginning of an input, and does not tell its
// end: what came of one byte less is a beginning of what comes.
func (s Subject) HoldGrowth(t Test, p api.Params, input string) {
	t.Helper()
	before := s.Drive(t, p).Seen
	for upTo := 1; upTo <= len(input); upTo++ {
		d := s.Drive(t, p)
		for at := 0; at < upTo && d.Seen.Need == 0; at += 16 {
			d.Feed(input[at:min(at+16, upTo)])
		}
		if !strings.HasPrefix(d.Seen.Out, before.Out) || before.Need == api.Ended && d.Seen != before {
			t.Fatalf("%+v, input %q: %+v; one byte less: %+v", p, input[:upTo], d.Seen, before)
		}
		before = d.Seen
	}
}

// Sizes makes sizes of chunks of any bytes, one at least.
func Sizes(cuts []byte) []int {
	sizes := []int{api.MaxChunk}
	for _, c := range cuts {
		sizes = append(sizes, int(c)%api.MaxChunk+1)
	}
	return sizes
}
