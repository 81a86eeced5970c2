package head

import (
	"bytes"
	"slices"
	"strings"
	"testing"

	"penstock/api"
	"penstock/params"
)

// greatest is the greatest N that the chapter of params allows.
const greatest = 1000000000

// word is a line of so many bytes, without its end.
func word(n int) string {
	return strings.Repeat("abcdefg", n/7+1)[:n]
}

// inputs are streams to be cut into chunks in all ways.
var inputs = []string{
	"",
	"\n",
	"\n\n\n",
	"a",
	"a\n",
	"a\nb\nc",
	"a\nb\nc\n",
	"ab\n\ncd\n\n",
	"\x00\xff\r\n\x80 \t\n\x0b",
	word(64) + "\n",
	word(64),
	"a\n" + word(64) + "\n" + word(63) + "\n" + word(64),
	word(65),
	word(65) + "\n",
	"a\nbb\n" + word(65) + "\nc\n",
	"a\nbb\n" + word(65),
	"a\nbb\n" + word(200) + "\nc",
	word(64) + "\n\n" + word(65) + "\n",
	strings.Repeat("\n", 70),
	strings.Repeat("xy\n", 40) + "z",
}

// counts are the Ns that the inputs are tried with.
var counts = []int{0, 1, 2, 3, 4, 5, 39, 41, 42, greatest}

// state is what is seen of a machine behind some of its input.
type state struct {
	out  string
	need int
	err  api.Errno
	held int
}

// reckon is the denotation: what should be seen of a head of n behind this much of
// its input.
func reckon(n int, input string, ended bool) state {
	out := ""
	for n > 0 {
		text, rest, whole := strings.Cut(input, "\n")
		if len(text) > 64 {
			return state{out, api.Ended, api.ErrLong, 0}
		}
		if !whole && !ended {
			return state{out, 0, api.OK, len(text)}
		}
		if !whole && text == "" {
			break
		}
		out, input, n = out+text+"\n", rest, n-1
	}
	return state{out, api.Ended, api.OK, 0}
}

// headOf makes a machine that must be one.
func headOf(t *testing.T, n int) api.Machine {
	t.Helper()
	m, e := New(api.Params{Kind: api.KindHead, N: n})
	if e != api.OK || m == nil {
		t.Fatalf("New of N %d: %v, %v; want a machine", n, m, e)
	}
	return m
}

// driver hands a machine its input and holds all that it sees against reckon.
type driver struct {
	t    *testing.T
	n    int
	m    api.Machine
	fed  string
	seen state
}

func newDriver(t *testing.T, n int) *driver {
	t.Helper()
	d := &driver{t: t, n: n, m: headOf(t, n)}
	d.seen.need, d.seen.held = d.m.Need(), d.m.Held()
	d.compare(false)
	return d
}

// compare holds what was seen so far against the denotation of what was fed.
func (d *driver) compare(ended bool) {
	d.t.Helper()
	if want := reckon(d.n, d.fed, ended); d.seen != want {
		d.t.Fatalf("N %d, input %q (ended: %v): %+v; want %+v", d.n, d.fed, ended, d.seen, want)
	}
	bound, _ := params.Bound(api.Params{Kind: api.KindHead, N: d.n})
	if d.seen.held > bound {
		d.t.Fatalf("N %d, input %q: it holds %d bytes; at most %d", d.n, d.fed, d.seen.held, bound)
	}
}

// note puts an answer behind those that came, and then writes over it: if that were
// the machine's own memory, what comes later would tell it.
func (d *driver) note(outs []api.Out, e api.Errno) {
	d.t.Helper()
	total := 0
	for i, o := range outs {
		if o.Port != 0 || len(o.Bytes) == 0 {
			d.t.Fatalf("N %d, input %q: Out %+v", d.n, d.fed, o)
		}
		total += len(o.Bytes)
		d.seen.out += string(o.Bytes)
		spoil(o.Bytes[:cap(o.Bytes)])
		outs[i] = api.Out{Port: 77}
	}
	if total > 1024 {
		d.t.Fatalf("N %d, input %q: an answer of %d bytes", d.n, d.fed, total)
	}
	d.seen.need, d.seen.err, d.seen.held = d.m.Need(), e, d.m.Held()
}

// feed hands on a chunk in memory that is written over behind the call.
func (d *driver) feed(chunk string) {
	d.t.Helper()
	memory := []byte(chunk + strings.Repeat("?", 8))
	outs, e := d.m.Feed(0, memory[:len(chunk)])
	if string(memory) != chunk+strings.Repeat("?", 8) {
		d.t.Fatalf("N %d: Feed of %q made it %q", d.n, chunk, memory)
	}
	spoil(memory)
	d.fed += chunk
	d.note(outs, e)
	d.compare(false)
}

func (d *driver) end() {
	d.t.Helper()
	d.note(d.m.End(0))
	d.compare(true)
}

// pester makes all calls that are to be refused now.
func (d *driver) pester() {
	d.t.Helper()
	want := api.ErrArg
	ports := []int{1, 2, -1, -2, -3, 1 << 40, -1 << 63}
	if d.seen.need == api.Ended {
		want = api.ErrDone
		ports = append(ports, 0)
	}
	for _, port := range ports {
		for _, b := range [][]byte{[]byte("p"), []byte("q\n"), nil, bytes.Repeat([]byte("r"), 33)} {
			outs, e := d.m.Feed(port, b)
			d.refused(outs, e, want)
		}
		outs, e := d.m.End(port)
		d.refused(outs, e, want)
	}
	for _, b := range [][]byte{nil, {}, []byte("s\n")[:0], bytes.Repeat([]byte("\n"), 33), make([]byte, 4096)} {
		outs, e := d.m.Feed(0, b)
		d.refused(outs, e, want)
	}
	outs, e := d.m.More()
	d.refused(outs, e, want)
}

// refused holds one answer, and what is seen behind it, against a refusal.
func (d *driver) refused(outs []api.Out, e, want api.Errno) {
	d.t.Helper()
	if len(outs) != 0 || e != want {
		d.t.Fatalf("N %d, input %q, Need %d: %+v, %v; want nothing, %v", d.n, d.fed, d.seen.need, outs, e, want)
	}
	if d.m.Need() != d.seen.need || d.m.Held() != d.seen.held {
		d.t.Fatalf("N %d, input %q: Need %d, Held %d behind a refusal; %d, %d ahead of it",
			d.n, d.fed, d.m.Need(), d.m.Held(), d.seen.need, d.seen.held)
	}
}

func spoil(b []byte) {
	for i := range b {
		b[i] = '!'
	}
}

// run hands a machine a whole input, in chunks whose sizes come by turns, as long as
// it asks for it; it answers what was seen at last.
func run(t *testing.T, n int, input string, sizes ...int) state {
	t.Helper()
	d := newDriver(t, n)
	for k := 0; d.seen.need == 0 && input != ""; k++ {
		size := min(sizes[k%len(sizes)], len(input))
		d.feed(input[:size])
		input = input[size:]
	}
	if d.seen.need == 0 {
		d.end()
	}
	return d.seen
}

// P4.1
func TestNewMakesAMachineOfHeadsAlone(t *testing.T) {
	for _, n := range []int{0, 1, 2, greatest - 1, greatest} {
		m := headOf(t, n)
		need := 0
		if n == 0 {
			need = api.Ended
		}
		if m.Need() != need || m.Held() != 0 {
			t.Errorf("N %d: Need %d, Held %d; want %d, 0", n, m.Need(), m.Held(), need)
		}
	}
	if m, e := New(api.Params{Kind: api.KindHead, N: 3, A: []byte{}, B: []byte{}}); m == nil || e != api.OK {
		t.Errorf("A and B that are empty, but not nil: %v, %v", m, e)
	}
}

// P4.1
func TestNewRefuses(t *testing.T) {
	for _, c := range []struct {
		p api.Params
		e api.Errno
	}{
		{api.Params{}, api.ErrKind},
		{api.Params{Kind: -1}, api.ErrKind},
		{api.Params{Kind: 17, N: -1}, api.ErrKind},
		{api.Params{Kind: 1 << 40}, api.ErrKind},
		{api.Params{Kind: api.KindHead, N: -1}, api.ErrParam},
		{api.Params{Kind: api.KindHead, N: -1 << 63}, api.ErrParam},
		{api.Params{Kind: api.KindHead, N: greatest + 1}, api.ErrParam},
		{api.Params{Kind: api.KindHead, N: 1<<63 - 1}, api.ErrParam},
		{api.Params{Kind: api.KindHead, N: 1, A: []byte("a")}, api.ErrParam},
		{api.Params{Kind: api.KindHead, N: 1, B: []byte("b")}, api.ErrParam},
		// Of another kind, what Check says of it comes first.
		{api.Params{Kind: api.KindTail, N: -1}, api.ErrParam},
		{api.Params{Kind: api.KindMatch}, api.ErrParam},
		{api.Params{Kind: api.KindTail, N: 32}, api.ErrState},
		{api.Params{Kind: api.KindJoin, N: 15, A: []byte(",")}, api.ErrState},
		{api.Params{Kind: api.KindSource}, api.ErrKind},
		{api.Params{Kind: api.KindSink}, api.ErrKind},
		{api.Params{Kind: api.KindTail, N: 1}, api.ErrKind},
		{api.Params{Kind: api.KindMatch, A: []byte("a")}, api.ErrKind},
		{api.Params{Kind: api.KindTurn, A: []byte("a")}, api.ErrKind},
		{api.Params{Kind: api.KindFields, N: 1, A: []byte(",")}, api.ErrKind},
		{api.Params{Kind: api.KindUniq}, api.ErrKind},
		{api.Params{Kind: api.KindCount}, api.ErrKind},
		{api.Params{Kind: api.KindNumber, N: 1}, api.ErrKind},
		{api.Params{Kind: api.KindSort}, api.ErrKind},
		{api.Params{Kind: api.KindChain, N: 1}, api.ErrKind},
		{api.Params{Kind: api.KindPaste, N: 1, A: []byte(",")}, api.ErrKind},
		{api.Params{Kind: api.KindJoin, N: 1, A: []byte(",")}, api.ErrKind},
		{api.Params{Kind: api.KindTee, N: 1}, api.ErrKind},
		{api.Params{Kind: api.KindSplit, N: 1}, api.ErrKind},
	} {
		if m, e := New(c.p); m != nil || e != c.e {
			t.Errorf("New(%+v): %v, %v; want none, %v", c.p, m, e, c.e)
		}
	}
}

// P4.1
func TestNewLeavesWhatIsHandedIn(t *testing.T) {
	a, b := []byte("ab"), []byte("c")
	New(api.Params{Kind: api.KindHead, N: 1, A: a, B: b})
	if string(a) != "ab" || string(b) != "c" {
		t.Errorf("A %q, B %q behind New", a, b)
	}
}

// P4.2
func TestTheChaptersExample(t *testing.T) {
	m := headOf(t, 2)
	outs, e := m.Feed(0, []byte("a\nb\nc"))
	if got := joined(outs); got != "a\nb\n" || e != api.OK || m.Need() != api.Ended || m.Held() != 0 {
		t.Errorf("a, b, c: %q, %v, Need %d, Held %d; want a, b, and ended", got, e, m.Need(), m.Held())
	}
	if outs, e := m.End(0); len(outs) != 0 || e != api.ErrDone {
		t.Errorf("End behind that: %+v, %v; want ErrDone", outs, e)
	}
}

// joined is all bytes of an answer.
func joined(outs []api.Out) string {
	all := ""
	for _, o := range outs {
		all += string(o.Bytes)
	}
	return all
}

// P4.2, at each step; P4.3, too, and P4.4's memory
func TestTheDenotationComesByChunksOfEverySize(t *testing.T) {
	for _, input := range inputs {
		for _, n := range counts {
			for size := 1; size <= 32; size++ {
				run(t, n, input, size)
			}
			run(t, n, input, 1, 32, 2, 31, 3, 17)
			run(t, n, input, 32, 32, 1)
		}
	}
}

// P4.2: the denotation is reckoned rightly
func TestWhatComesOfSomeInputs(t *testing.T) {
	long := word(64)
	for _, c := range []struct {
		n     int
		input string
		out   string
		err   api.Errno
	}{
		{1, "", "", api.OK},
		{1, "\n", "\n", api.OK},
		{1, "a", "a\n", api.OK},
		{1, "a\nb", "a\n", api.OK},
		{2, "a\n\nb\n", "a\n\n", api.OK},
		{3, "a\nb\nc", "a\nb\nc\n", api.OK},
		{3, "a\nb\nc\n", "a\nb\nc\n", api.OK},
		{4, "a\nb\nc", "a\nb\nc\n", api.OK},
		{4, "a\nb\nc\n", "a\nb\nc\n", api.OK},
		{greatest, "a\nb\nc\n\n", "a\nb\nc\n\n", api.OK},
		{1, long, long + "\n", api.OK},
		{1, long + "\n", long + "\n", api.OK},
		{1, long + "h", "", api.ErrLong},
		{1, long + "h\n", "", api.ErrLong},
		{2, "a\n" + long + "h\nb\n", "a\n", api.ErrLong},
		{1, "a\n" + long + "h\nb\n", "a\n", api.OK},
		{0, long + "h\n", "", api.OK},
	} {
		for _, size := range []int{1, 5, 32} {
			seen := run(t, c.n, c.input, size)
			if seen.out != c.out || seen.err != c.err || seen.need != api.Ended || seen.held != 0 {
				t.Errorf("N %d of %q, by %d bytes: %+v; want %q, %v", c.n, c.input, size, seen, c.out, c.err)
			}
		}
	}
}

// P4.2
func TestNoneIsReadByAHeadOfNoLines(t *testing.T) {
	d := newDriver(t, 0)
	if d.seen != (state{need: api.Ended}) {
		t.Errorf("N 0: %+v; want one that has ended", d.seen)
	}
	d.pester()
}

// P4.2
func TestTheGreatestNTakesAllLines(t *testing.T) {
	m := headOf(t, greatest)
	for i := range 5000 {
		outs, e := m.Feed(0, []byte("a\n\nbc\n"))
		if joined(outs) != "a\n\nbc\n" || e != api.OK || m.Need() != 0 {
			t.Fatalf("chunk %d: %q, %v, Need %d", i, joined(outs), e, m.Need())
		}
	}
}

// P4.2
func TestTheLongLineFailsByItsByte(t *testing.T) {
	d := newDriver(t, 2)
	d.feed("a\n" + word(30))
	d.feed(word(32))
	d.feed("yz")
	if d.seen.need != 0 || d.seen.held != 64 {
		t.Fatalf("64 bytes: %+v", d.seen)
	}
	d.feed("!")
	if d.seen != (state{"a\n", api.Ended, api.ErrLong, 0}) {
		t.Errorf("one more: %+v; want ErrLong", d.seen)
	}
	d.pester()
}

// P4.3
func TestHeldIsTheLineThatIsBegun(t *testing.T) {
	m := headOf(t, 4)
	for _, c := range []struct {
		chunk string
		held  int
	}{
		{"a", 1},
		{"bc", 3},
		{"\n", 0},
		{"\n", 0},
		{"x\nyz", 2},
		{word(32), 34},
		{word(30), 64},
		{"\nwhat is behind it", 0},
	} {
		if _, e := m.Feed(0, []byte(c.chunk)); e != api.OK || m.Held() != c.held {
			t.Errorf("behind %q: %v, Held %d; want %d", c.chunk, e, m.Held(), c.held)
		}
	}
	if m.Need() != api.Ended {
		t.Errorf("Need %d behind the last line", m.Need())
	}
	m = headOf(t, 4)
	m.Feed(0, []byte("rest"))
	m.End(0)
	if m.Held() != 0 {
		t.Errorf("Held %d behind the end", m.Held())
	}
}

// P4.4
func TestChunksOfMaxChunkBytesAreTakenAndNoGreaterOnes(t *testing.T) {
	m := headOf(t, 3)
	full := strings.Repeat("x", 31) + "\n"
	outs, e := m.Feed(0, []byte(full+"\n"))
	if len(outs) != 0 || e != api.ErrArg || m.Held() != 0 || m.Need() != 0 {
		t.Errorf("33 bytes: %+v, %v, Held %d, Need %d; want ErrArg", outs, e, m.Held(), m.Need())
	}
	if outs, e = m.Feed(0, []byte(full)); joined(outs) != full || e != api.OK {
		t.Errorf("32 bytes: %+v, %v", outs, e)
	}
}

// P4.4: at each step, so that what goes on behind refusals shows that they change nothing
func TestRefusalsChangeNothing(t *testing.T) {
	for _, input := range inputs {
		for _, n := range []int{0, 1, 2, 3, 41, greatest} {
			for _, size := range []int{1, 2, 3, 7, 32} {
				d := newDriver(t, n)
				d.pester()
				for at := 0; at < len(input) && d.seen.need == 0; at += size {
					d.feed(input[at:min(at+size, len(input))])
					d.pester()
				}
				if d.seen.need == 0 {
					d.end()
				}
				d.pester()
			}
		}
	}
}

// P4.4
func TestMachinesShareNothing(t *testing.T) {
	one, other := newDriver(t, 2), newDriver(t, 3)
	for _, chunk := range []string{"a", "b\nc", "\nd"} {
		one.feed(chunk)
		if other.seen.need == 0 {
			other.feed(strings.ToUpper(chunk) + "Z")
		}
	}
	if one.seen.out != "ab\nc\n" || other.seen.out != "AZB\nCZ\n" {
		t.Errorf("%q, %q", one.seen.out, other.seen.out)
	}
}

// P4.4: answers that are kept stay as they are, whatever comes behind them
func TestAnswersAreNewMemory(t *testing.T) {
	m := headOf(t, greatest)
	var kept [][]api.Out
	chunk := []byte("..\n.\n")
	for c := byte('a'); c <= 'z'; c++ {
		chunk[0], chunk[1], chunk[3] = c, c, c
		outs, _ := m.Feed(0, chunk)
		kept = append(kept, outs)
	}
	for i, outs := range kept {
		c := string(rune('a' + i))
		if got := joined(outs); got != c+c+"\n"+c+"\n" {
			t.Errorf("answer %d is %q now", i, got)
		}
	}
}

// P4.5
func TestOtherChunksMakeTheSame(t *testing.T) {
	for _, input := range inputs {
		for _, n := range counts {
			want := run(t, n, input, 1)
			for _, sizes := range [][]int{{2}, {3}, {31}, {32}, {1, 2, 3}, {32, 1}, {5, 9, 2, 30}} {
				if got := run(t, n, input, sizes...); got != want {
					t.Errorf("N %d of %q by %v: %+v; want %+v", n, input, sizes, got, want)
				}
			}
		}
	}
}

// P4.6: driven, but not ended, with each beginning of an input
func TestMoreOfAnInputGoesOnFromWhatCame(t *testing.T) {
	for _, input := range inputs {
		for _, n := range counts {
			before := newDriver(t, n).seen
			for upTo := 1; upTo <= len(input); upTo++ {
				d := newDriver(t, n)
				for at := 0; at < upTo && d.seen.need == 0; at += 16 {
					d.feed(input[at:min(at+16, upTo)])
				}
				now := d.seen
				if !strings.HasPrefix(now.out, before.out) || before.need == api.Ended && now != before {
					t.Fatalf("N %d of %q: %+v; one byte less: %+v", n, input[:upTo], now, before)
				}
				before = now
			}
		}
	}
}

// P4.7: without the denotation, and without chunks that are driven by it
func TestTheFirstLinesComeAndNothingIsReadBehindThem(t *testing.T) {
	lines := []string{"one", "", "three", word(64), "five", "", "", "eight"}
	for have := range len(lines) + 1 {
		input := strings.Join(append(slices.Clone(lines[:have]), ""), "\n")
		for n := range len(lines) + 2 {
			want := strings.Join(append(slices.Clone(lines[:min(n, have)]), ""), "\n")
			m, out, read := headOf(t, n), "", 0
			for read < len(input) && m.Need() == 0 {
				outs, e := m.Feed(0, []byte(input[read:read+1]))
				if e != api.OK {
					t.Fatalf("%d of %d lines: %v", n, have, e)
				}
				out += joined(outs)
				read++
			}
			if n <= have && (read != len(want) || m.Need() != api.Ended) {
				t.Errorf("%d of %d lines: %d bytes are read, Need %d; want %d, and ended", n, have, read, m.Need(), len(want))
			}
			if n > have && m.Need() != 0 {
				t.Errorf("%d of %d lines: Need %d ahead of the end", n, have, m.Need())
			}
			m.End(0)
			if out != want {
				t.Errorf("%d of %d lines: %q; want %q", n, have, out, want)
			}
		}
	}
}

// P4.7: what stands behind the last one in its own chunk
func TestNothingIsReadBehindTheLastLineOfAChunk(t *testing.T) {
	for _, behind := range []string{"", "b", "b\n", "\n\n\n", "b\nc\nd", word(28)} {
		m := headOf(t, 2)
		m.Feed(0, []byte("a\nA"))
		outs, e := m.Feed(0, []byte("B\n"+behind))
		if joined(outs) != "AB\n" || e != api.OK || m.Need() != api.Ended || m.Held() != 0 {
			t.Errorf("%q behind it: %+v, %v, Need %d, Held %d", behind, outs, e, m.Need(), m.Held())
		}
	}
}

// P4.2 to P4.6, of any bytes
func FuzzHead(f *testing.F) {
	f.Add(uint32(2), []byte("a\nb\nc"), []byte{1, 2, 3})
	f.Add(uint32(0), []byte("a"), []byte{})
	f.Add(uint32(3), []byte("a\n"+word(65)+"\n"), []byte{31, 0})
	f.Add(uint32(greatest), []byte(word(64)+"\n\n\n"), []byte{7})
	f.Fuzz(func(t *testing.T, n uint32, input, cuts []byte) {
		if len(input) > 4096 {
			return
		}
		sizes := []int{32}
		for _, c := range cuts {
			sizes = append(sizes, int(c)%32+1)
		}
		run(t, int(n%(greatest+1)), string(input), sizes...)
	})
}
