package rig

import (
	"strings"

	"penstock/api"
)

// Word is a line of so many bytes, without its end.
func Word(n int) string {
	return strings.Repeat("abcdefg", n/7+1)[:n]
}

// Inputs are inputs of a machine of lines.
func Inputs() []string {
	return []string{
		"",
		"\n",
		"\n\n\n",
		"a",
		"a\n",
		"a\nb\nc",
		"a\nb\nc\n",
		"ab\n\ncd\n\n",
		"\x00\xff\r\n\x80 \t\n\x0b",
		Word(64) + "\n",
		Word(64),
		"a\n" + Word(64) + "\n" + Word(63) + "\n" + Word(64),
		Word(65),
		Word(65) + "\n",
		"a\nbb\n" + Word(65) + "\nc\n",
		"a\nbb\n" + Word(65),
		"a\nbb\n" + Word(200) + "\nc",
		Word(64) + "\n\n" + Word(65) + "\n",
		strings.Repeat("\n", 70),
		strings.Repeat("xy\n", 40) + "z",
	}
}

// Text is an answer's bytes.
func Text(outs []api.Out) string {
	text := ""
	for _, o := range outs {
		text += string(o.Bytes)
	}
	return text
}

// HoldChunks runs a machine by chunks of every size, and of several: what is seen at
// last is the same.
func (s Subject) HoldChunks(t Test, p api.Params, input string) {
	t.Helper()
	want := s.Run(t, p, input, 1)
	ways := [][]int{{1, 32, 2, 31, 3, 17}, {32, 32, 1}, {32, 1}, {1, 2, 3}, {5, 9, 2, 30}}
	for size := 2; size <= api.MaxChunk; size++ {
		ways = append(ways, []int{size})
	}
	for _, sizes := range ways {
		if got := s.Run(t, p, input, sizes...); got != want {
			t.Fatalf("%+v, input %q by chunks of %v: %+v; of 1: %+v", p, input, sizes, got, want)
		}
	}
}

// HoldRefusals runs a machine with all calls that are to be refused at each step, so
// that what goes on behind them shows that they change nothing.
func (s Subject) HoldRefusals(t Test, p api.Params, input string) {
	t.Helper()
	for _, size := range []int{1, 2, 3, 7, 32} {
		d := s.Drive(t, p)
		d.Pesters = true
		d.Run(input, size)
	}
}

// HoldGrowth drives machines with each beginning of an input, and does not tell its
// end: what came of one byte less is a beginning of what comes.
func (s Subject) HoldGrowth(t Test, p api.Params, input string) {
	t.Helper()
	before := s.Drive(t, p).Seen
	for upTo := 1; upTo <= len(input); upTo++ {
		d := s.Drive(t, p)
		for at := 0; at < upTo && d.Seen.Need == 0; at += 16 {
			d.Feed(input[at:min(at+16, upTo)])
		}
		if !strings.HasPrefix(d.Seen.Out, before.Out) || before.Need == api.Ended && d.Seen != before {
			t.Fatalf("%+v, input %q: %+v; one byte less: %+v", p, input[:upTo], d.Seen, before)
		}
		before = d.Seen
	}
}

// Sizes makes sizes of chunks of any bytes, one at least.
func Sizes(cuts []byte) []int {
	sizes := []int{api.MaxChunk}
	for _, c := range cuts {
		sizes = append(sizes, int(c)%api.MaxChunk+1)
	}
	return sizes
}
