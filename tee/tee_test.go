package tee

import (
	"slices"
	"strings"
	"testing"

	"penstock/api"
	"penstock/rig"
)

// tees are what is tested, held against reckon.
var tees = rig.Subject{New: New, Reckon: rig.OfOne(reckon)}

// of makes the parameters of a tee.
func of(n int) api.Params {
	return api.Params{Kind: api.KindTee, N: n}
}

// reckon is the denotation: nothing is held, and it ends with its input alone.
func reckon(p api.Params, in rig.Input) rig.Seen {
	seen := rig.Outputs(slices.Repeat([]string{in.Text}, p.N)...)
	if in.Ended {
		seen.Need = api.Ended
	}
	return seen
}

// inputs are the rig's, and such as have bytes of every kind.
func inputs() []string {
	return append(rig.Inputs(),
		"\x00", "\xff", "\r", "0", " ", "ab", "ba", "aa", "a\nbc",
		"\n\x00\n\x00\x00\n\n", "\x00a\nb\x00c\n\x00",
		"\xc3\xbf\xbf\xc3é€",
		rig.Every(), rig.Every()+rig.Every(),
		strings.Repeat("\x00", 32), strings.Repeat("\n", 33), strings.Repeat("a", 31), strings.Repeat("aab", 100),
		rig.Letters(),
	)
}

// take hands a machine of n outputs a chunk: each of them must be told just that, in the
// order of ports, and more of the input be asked for. It answers what was answered.
func take(t *testing.T, m api.Machine, n int, chunk string) []api.Out {
	t.Helper()
	outs, e := m.Feed(0, []byte(chunk))
	if e != api.OK || m.Need() != 0 || m.Held() != 0 {
		t.Fatalf("N %d, %q: %+v, %v, Need %d, Held %d; want Need 0, Held 0", n, chunk, outs, e, m.Need(), m.Held())
	}
	told := make([]string, n)
	for i, o := range outs {
		if o.Port < 0 || o.Port >= n || len(o.Bytes) == 0 || i > 0 && o.Port < outs[i-1].Port {
			t.Fatalf("N %d, %q: %+v; want bytes for outputs, rising", n, chunk, outs)
		}
		told[o.Port] += string(o.Bytes)
	}
	if !slices.Equal(told, slices.Repeat([]string{chunk}, n)) {
		t.Fatalf("N %d, %q: %q; want itself for each", n, chunk, told)
	}
	return outs
}

// end tells a machine that its input has ended: nothing is told, and it has ended.
func end(t *testing.T, m api.Machine) {
	t.Helper()
	if outs, e := m.End(0); len(outs) != 0 || e != api.OK || m.Need() != api.Ended || m.Held() != 0 {
		t.Fatalf("the end: %+v, %v, Need %d, Held %d; want nothing, Ended", outs, e, m.Need(), m.Held())
	}
}

// P15.1
func TestNewMakesAMachineOfTeesAlone(t *testing.T) {
	tees.HoldNewByPorts(t, api.KindTee)
}

// P15.2
func TestTheChaptersExample(t *testing.T) {
	want := rig.Outputs("ab", "ab")
	want.Need = api.Ended
	for size := 1; size <= api.MaxChunk; size++ {
		if seen := tees.Run(t, of(2), "ab", size); seen != want {
			t.Errorf("by %d bytes: %+v; want ab; ab", size, seen)
		}
	}
}

// P15.2, at each step; P15.3 and P15.5, too, and P15.4's memory
func TestTheDenotationComesByAllChunks(t *testing.T) {
	for _, input := range inputs() {
		for n := 1; n <= api.MaxPorts; n++ {
			for _, ins := range rig.Endings(input) {
				tees.HoldChunksOf(t, of(n), ins)
			}
		}
	}
}

// P15.2: the denotation is reckoned rightly
func TestWhatComesOfSomeInputs(t *testing.T) {
	long := rig.Word(300)
	for _, c := range []struct {
		n    int
		in   rig.Input
		outs []string
		need int
	}{
		{1, rig.Ended(""), []string{""}, api.Ended},
		{1, rig.Ended("a"), []string{"a"}, api.Ended},
		{1, rig.Ended("a\nb"), []string{"a\nb"}, api.Ended},
		{1, rig.Ended(long), []string{long}, api.Ended},
		{2, rig.Ended(""), []string{"", ""}, api.Ended},
		{2, rig.Ended("ab"), []string{"ab", "ab"}, api.Ended},
		{2, rig.Ended("\n"), []string{"\n", "\n"}, api.Ended},
		{2, rig.Ended("a\n\n"), []string{"a\n\n", "a\n\n"}, api.Ended},
		{2, rig.Ended("\x00\xff\r"), []string{"\x00\xff\r", "\x00\xff\r"}, api.Ended},
		{2, rig.Begun(""), []string{"", ""}, 0},
		{2, rig.Begun("ab"), []string{"ab", "ab"}, 0},
		{3, rig.Ended(""), []string{"", "", ""}, api.Ended},
		{3, rig.Ended("a"), []string{"a", "a", "a"}, api.Ended},
		{3, rig.Ended("ba\nab\n"), []string{"ba\nab\n", "ba\nab\n", "ba\nab\n"}, api.Ended},
		{3, rig.Begun("a\n"), []string{"a\n", "a\n", "a\n"}, 0},
		{4, rig.Ended(""), []string{"", "", "", ""}, api.Ended},
		{4, rig.Ended("abcd"), []string{"abcd", "abcd", "abcd", "abcd"}, api.Ended},
		{4, rig.Ended("\n\x00\n"), []string{"\n\x00\n", "\n\x00\n", "\n\x00\n", "\n\x00\n"}, api.Ended},
		{4, rig.Ended(long), []string{long, long, long, long}, api.Ended},
		{4, rig.Begun("1\n2"), []string{"1\n2", "1\n2", "1\n2", "1\n2"}, 0},
	} {
		want := rig.Outputs(c.outs...)
		want.Need = c.need
		for _, size := range []int{1, 5, 32} {
			if seen := tees.RunOf(t, of(c.n), []rig.Input{c.in}, size); seen != want {
				t.Errorf("N %d, %v, by %d bytes: %+v; want %+v", c.n, c.in, size, seen, want)
			}
		}
	}
}

// P15.2: all that comes of a chunk comes by it, in the order of ports, and nothing by the
// end
func TestAChunkIsToldAtOnce(t *testing.T) {
	for n := 1; n <= api.MaxPorts; n++ {
		m := tees.Make(t, of(n))
		for _, chunk := range []string{"a", "\n", "b\n\nc", "\x00\n\r\xff", "\x00", rig.Word(31), rig.Word(32), strings.Repeat("\n", 32), strings.Repeat("\x00", 32)} {
			take(t, m, n, chunk)
		}
		end(t, m)
	}
}

// P15.2: each of all 256 bytes
func TestEachByteGoesToEachOutput(t *testing.T) {
	for n := 1; n <= api.MaxPorts; n++ {
		m := tees.Make(t, of(n))
		for c := range 256 {
			take(t, m, n, string([]byte{byte(c)}))
		}
		end(t, m)
	}
}

// P15.2: an input that has told nothing
func TestAnInputWithoutBytesComesToNone(t *testing.T) {
	for n := 1; n <= api.MaxPorts; n++ {
		end(t, tees.Make(t, of(n)))
	}
}

// P15.2: an input that has not ended is read on; that it fails is no call of the machine
func TestAnInputThatDoesNotEndIsReadOn(t *testing.T) {
	all := strings.Repeat("abc\n-\n;", 300)
	for n := 1; n <= api.MaxPorts; n++ {
		d := tees.Drive(t, of(n))
		for range 300 {
			d.Feed("abc\n-")
			d.Feed("\n;")
		}
		want := rig.Outputs(slices.Repeat([]string{all}, n)...)
		if d.Seen != want {
			t.Errorf("N %d: %+v", n, d.Seen)
		}
		d.End()
		if want.Need = api.Ended; d.Seen != want {
			t.Errorf("N %d, behind the end: %+v", n, d.Seen)
		}
	}
}

// P15.2: it knows no lines
func TestNoLineIsTooLong(t *testing.T) {
	for _, long := range []int{64, 65, 66, 1000, 5000} {
		for _, input := range []string{strings.Repeat("-", long), strings.Repeat("\x00", long), rig.Word(long) + "\n"} {
			want := rig.Outputs(slices.Repeat([]string{input}, 4)...)
			want.Need = api.Ended
			if seen := tees.Run(t, of(4), input, 32); seen != want {
				t.Errorf("%d bytes: %+v", long, seen)
			}
		}
	}
}

// P15.3: also behind refused calls, and behind the end
func TestNothingIsHeld(t *testing.T) {
	for n := 1; n <= api.MaxPorts; n++ {
		m := tees.Make(t, of(n))
		for _, chunk := range []string{"a", "\n", "a\nb", rig.Word(32), rig.Word(32), rig.Word(1), "\x00"} {
			take(t, m, n, chunk)
			if m.Feed(1, []byte(chunk)); m.Held() != 0 {
				t.Errorf("N %d, %q: Held %d behind a refused call", n, chunk, m.Held())
			}
		}
		end(t, m)
		if m.Feed(0, []byte("abc")); m.Held() != 0 {
			t.Errorf("N %d: Held %d behind the end", n, m.Held())
		}
	}
}

// P15.4
func TestChunksOfMaxChunkBytesAreTakenAndNoGreaterOnes(t *testing.T) {
	tees.HoldChunkLimits(t, of(1), of(2), of(3), of(4))
}

// P15.4: ahead of each step, and behind the last one
func TestRefusalsChangeNothing(t *testing.T) {
	for _, input := range inputs() {
		for n := 1; n <= api.MaxPorts; n++ {
			tees.HoldRefusals(t, of(n), input)
		}
	}
}

// P15.4: one by one: ports that are outputs, and such as there are not; chunks of no
// bytes, and of too many; More
func TestEachUndueCallIsRefused(t *testing.T) {
	for n := 1; n <= api.MaxPorts; n++ {
		for _, call := range rig.UndueCallsOf(0) {
			m := tees.Make(t, of(n))
			for range 2 {
				rig.HoldUndue(t, m, call)
				take(t, m, n, "a\nb")
			}
			call.Make(m)
			end(t, m)
			rig.HoldDone(t, m, call)
		}
	}
}

// P15.4: whatever is called, also what was due ahead of the end
func TestBehindTheEndAllIsRefused(t *testing.T) {
	for n := 1; n <= api.MaxPorts; n++ {
		m := tees.Make(t, of(n))
		take(t, m, n, "a\nb")
		end(t, m)
		for range 2 {
			for _, call := range append(rig.UndueCallsOf(-4), rig.FeedOf(0, []byte("a")), rig.FeedOf(0, []byte(rig.Word(32)))) {
				rig.HoldDone(t, m, call)
			}
		}
	}
}

// P15.4
func TestMachinesShareNothing(t *testing.T) {
	one, other := tees.Drive(t, of(2)), tees.Drive(t, of(3))
	for _, chunk := range []string{"a", "b\nc", "\nd"} {
		one.Feed(chunk)
		other.Feed(strings.ToUpper(chunk))
	}
	other.End()
	third := tees.Drive(t, of(1))
	for _, d := range []*rig.Driver{third, one} {
		d.Feed("z")
		d.End()
	}
	for _, c := range []struct {
		d    *rig.Driver
		want rig.Seen
	}{
		{one, rig.Outputs("ab\nc\ndz", "ab\nc\ndz")},
		{other, rig.Outputs("AB\nC\nD", "AB\nC\nD", "AB\nC\nD")},
		{third, rig.Outputs("z")},
	} {
		if c.want.Need = api.Ended; c.d.Seen != c.want {
			t.Errorf("%+v; want %+v", c.d.Seen, c.want)
		}
	}
}

// P15.4: what is written over a chunk behind Feed plays no part, and what is written
// over an answer is not seen in the chunk
func TestChunksAreNeitherKeptNorChanged(t *testing.T) {
	for n := 1; n <= api.MaxPorts; n++ {
		m := tees.Make(t, of(n))
		chunk := make([]byte, 4, 8)
		for _, text := range []string{"a\nbc", "\n\n\n\n", "\x00\xff\r\n"} {
			copy(chunk, text)
			first, _ := m.Feed(0, chunk)
			if string(chunk) != text {
				t.Errorf("N %d: %q is %q behind Feed", n, text, chunk)
			}
			for _, o := range first {
				copy(o.Bytes[:cap(o.Bytes)], "????")
			}
			if string(chunk) != text {
				t.Errorf("N %d: %q is %q behind a change of the answer", n, text, chunk)
			}
			second, e := m.Feed(0, chunk)
			copy(chunk, "!!!!")
			if rig.Text(second) != strings.Repeat(text, n) || e != api.OK {
				t.Errorf("N %d, %q: %q, %v, behind a change of the chunk", n, text, rig.Text(second), e)
			}
		}
	}
}

// P15.4: answers that are kept stay as they are, whatever comes behind them
func TestAnswersAreNewMemory(t *testing.T) {
	for size := 1; size <= api.MaxChunk; size++ {
		for n := 1; n <= api.MaxPorts; n++ {
			tees.HoldAnswers(t, of(n), rig.Letters(), size)
			tees.HoldAnswers(t, of(n), rig.Every(), size)
		}
	}
}

// P15.4: what goes to one output shares no memory with what goes to another one, nor
// answers with one another, nor what stands behind them
func TestAnswersShareNothing(t *testing.T) {
	for n := 1; n <= api.MaxPorts; n++ {
		m := tees.Make(t, of(n))
		var kept []api.Out
		for _, chunk := range []string{"a\nb", "cd", rig.Word(32), "\n", rig.Word(1)} {
			kept = append(kept, take(t, m, n, chunk)...)
		}
		rig.HoldApart(t, kept...)
	}
}

// P15.6: with more of the input, and behind its end
func TestMoreOfAnInputGoesOnFromWhatCame(t *testing.T) {
	for _, input := range inputs() {
		for n := 1; n <= api.MaxPorts; n++ {
			tees.HoldGrowth(t, of(n), input)
		}
	}
}

// P15.7: without the denotation, and without what drives by it
func TestEachOutputIsTheInput(t *testing.T) {
	for _, input := range append(inputs(), rig.SmallInputs(4)...) {
		for n := 1; n <= api.MaxPorts; n++ {
			for _, size := range []int{1, 3, 31, 32} {
				got := tees.ToldEach(t, of(n), input, size)
				if !slices.Equal(got, slices.Repeat([]string{input}, n)) {
					t.Errorf("N %d, %q by %d bytes: %q", n, input, size, got)
				}
			}
		}
	}
}

// P15.2 to P15.7, of any bytes
func FuzzTee(f *testing.F) {
	f.Add(uint8(1), []byte("ab"), []byte{1, 2, 3}, true)
	f.Add(uint8(3), []byte("a\nb\x00c\xff"), []byte{31, 0}, false)
	f.Add(uint8(0), []byte(""), []byte{}, true)
	f.Add(uint8(2), []byte(rig.Word(200)), []byte{7}, true)
	f.Fuzz(func(t *testing.T, count uint8, input, cuts []byte, ended bool) {
		if len(input) > 4096 {
			return
		}
		p := of(int(count)%api.MaxPorts + 1)
		in := rig.Begun(string(input))
		if ended {
			in = rig.Ended(string(input))
		}
		tees.RunOf(t, p, []rig.Input{in}, rig.Sizes(cuts)...)
		for port, got := range tees.ToldEach(t, p, string(input), 5) {
			if got != string(input) {
				t.Errorf("%+v, output %d of %q: %q", p, port, input, got)
			}
		}
	})
}
