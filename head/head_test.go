package head

import (
	"slices"
	"strings"
	"testing"

	"penstock/api"
	"penstock/rig"
)

// greatest is the greatest N that the chapter of params allows.
const greatest = 1000000000

// heads are what is tested, held against reckon.
var heads = rig.Subject{New: New, Reckon: rig.OfOne(reckon)}

// counts are the Ns that the inputs are tried with.
var counts = []int{0, 1, 2, 3, 4, 5, 39, 41, 42, greatest}

// of makes the parameters of a head.
func of(n int) api.Params {
	return api.Params{Kind: api.KindHead, N: n}
}

// reckon is the denotation.
func reckon(p api.Params, in rig.Input) rig.Seen {
	out, input := "", in.Text
	for n := p.N; n > 0; n-- {
		text, rest, whole := strings.Cut(input, "\n")
		if len(text) > 64 {
			return rig.Seen{Out: out, Need: api.Ended, Err: api.ErrLong}
		}
		if !whole && !in.Ended {
			return rig.Seen{Out: out, Held: len(text)}
		}
		if !whole && text == "" {
			break
		}
		out, input = out+text+"\n", rest
	}
	return rig.Seen{Out: out, Need: api.Ended}
}

// P4.1
func TestNewMakesAMachineOfHeadsAlone(t *testing.T) {
	for _, n := range []int{0, 1, 2, greatest - 1, greatest} {
		m := heads.Make(t, of(n))
		need := 0
		if n == 0 {
			need = api.Ended
		}
		if m.Need() != need || m.Held() != 0 {
			t.Errorf("N %d: Need %d, Held %d; want %d, 0", n, m.Need(), m.Held(), need)
		}
	}
	heads.Make(t, api.Params{Kind: api.KindHead, N: 3, A: []byte{}, B: []byte{}})
}

// P4.1
func TestNewRefuses(t *testing.T) {
	heads.HoldNew(t, api.KindHead,
		rig.Refusal{P: of(-1), Err: api.ErrParam},
		rig.Refusal{P: of(-1 << 63), Err: api.ErrParam},
		rig.Refusal{P: of(greatest + 1), Err: api.ErrParam},
		rig.Refusal{P: of(1<<63 - 1), Err: api.ErrParam},
		rig.Refusal{P: api.Params{Kind: api.KindHead, N: 1, A: []byte("a")}, Err: api.ErrParam},
		rig.Refusal{P: api.Params{Kind: api.KindHead, N: 1, B: []byte("b")}, Err: api.ErrParam},
	)
}

// P4.2
func TestTheChaptersExample(t *testing.T) {
	m := heads.Make(t, of(2))
	outs, e := m.Feed(0, []byte("a\nb\nc"))
	if got := rig.Text(outs); got != "a\nb\n" || e != api.OK || m.Need() != api.Ended || m.Held() != 0 {
		t.Errorf("a, b, c: %q, %v, Need %d, Held %d; want a, b, and ended", got, e, m.Need(), m.Held())
	}
	if outs, e := m.End(0); len(outs) != 0 || e != api.ErrDone {
		t.Errorf("End behind that: %+v, %v; want ErrDone", outs, e)
	}
}

// P4.2, at each step; P4.3 and P4.5, too, and P4.4's memory
func TestTheDenotationComesByAllChunks(t *testing.T) {
	for _, input := range rig.Inputs() {
		for _, n := range counts {
			heads.HoldChunks(t, of(n), input)
		}
	}
}

// P4.2: the denotation is reckoned rightly
func TestWhatComesOfSomeInputs(t *testing.T) {
	long := rig.Word(64)
	for _, c := range []struct {
		n     int
		input string
		out   string
		err   api.Errno
	}{
		{1, "", "", api.OK},
		{1, "\n", "\n", api.OK},
		{1, "a", "a\n", api.OK},
		{1, "a\nb", "a\n", api.OK},
		{2, "a\n\nb\n", "a\n\n", api.OK},
		{3, "a\nb\nc", "a\nb\nc\n", api.OK},
		{3, "a\nb\nc\n", "a\nb\nc\n", api.OK},
		{4, "a\nb\nc", "a\nb\nc\n", api.OK},
		{4, "a\nb\nc\n", "a\nb\nc\n", api.OK},
		{greatest, "a\nb\nc\n\n", "a\nb\nc\n\n", api.OK},
		{1, long, long + "\n", api.OK},
		{1, long + "\n", long + "\n", api.OK},
		{1, long + "h", "", api.ErrLong},
		{1, long + "h\n", "", api.ErrLong},
		{2, "a\n" + long + "h\nb\n", "a\n", api.ErrLong},
		{1, "a\n" + long + "h\nb\n", "a\n", api.OK},
		{0, long + "h\n", "", api.OK},
	} {
		want := rig.Seen{Out: c.out, Need: api.Ended, Err: c.err}
		for _, size := range []int{1, 5, 32} {
			if seen := heads.Run(t, of(c.n), c.input, size); seen != want {
				t.Errorf("N %d of %q, by %d bytes: %+v; want %+v", c.n, c.input, size, seen, want)
			}
		}
	}
}

// P4.2
func TestNoneIsReadByAHeadOfNoLines(t *testing.T) {
	d := heads.Drive(t, of(0))
	if d.Seen != (rig.Seen{Need: api.Ended}) {
		t.Errorf("N 0: %+v; want one that has ended", d.Seen)
	}
	d.Pester()
}

// P4.2
func TestTheGreatestNTakesAllLines(t *testing.T) {
	m := heads.Make(t, of(greatest))
	for i := range 5000 {
		outs, e := m.Feed(0, []byte("a\n\nbc\n"))
		if rig.Text(outs) != "a\n\nbc\n" || e != api.OK || m.Need() != 0 {
			t.Fatalf("chunk %d: %q, %v, Need %d", i, rig.Text(outs), e, m.Need())
		}
	}
}

// P4.2
func TestTheLongLineFailsByItsByte(t *testing.T) {
	d := heads.Drive(t, of(2))
	d.Feed("a\n" + rig.Word(30))
	d.Feed(rig.Word(32))
	d.Feed("yz")
	if d.Seen.Need != 0 || d.Seen.Held != 64 {
		t.Fatalf("64 bytes: %+v", d.Seen)
	}
	d.Feed("!")
	if d.Seen != (rig.Seen{Out: "a\n", Need: api.Ended, Err: api.ErrLong}) {
		t.Errorf("one more: %+v; want ErrLong", d.Seen)
	}
	d.Pester()
}

// P4.3
func TestHeldIsTheLineThatIsBegun(t *testing.T) {
	m := heads.Make(t, of(4))
	for _, c := range []struct {
		chunk string
		held  int
	}{
		{"a", 1},
		{"bc", 3},
		{"\n", 0},
		{"\n", 0},
		{"x\nyz", 2},
		{rig.Word(32), 34},
		{rig.Word(30), 64},
		{"\nwhat is behind it", 0},
	} {
		if _, e := m.Feed(0, []byte(c.chunk)); e != api.OK || m.Held() != c.held {
			t.Errorf("behind %q: %v, Held %d; want %d", c.chunk, e, m.Held(), c.held)
		}
	}
	if m.Need() != api.Ended {
		t.Errorf("Need %d behind the last line", m.Need())
	}
	m = heads.Make(t, of(4))
	m.Feed(0, []byte("rest"))
	m.End(0)
	if m.Held() != 0 {
		t.Errorf("Held %d behind the end", m.Held())
	}
}

// P4.4
func TestChunksOfMaxChunkBytesAreTakenAndNoGreaterOnes(t *testing.T) {
	heads.HoldChunkLimits(t, of(1), of(3))
}

// P4.4
func TestRefusalsChangeNothing(t *testing.T) {
	for _, input := range rig.Inputs() {
		for _, n := range []int{0, 1, 2, 3, 41, greatest} {
			heads.HoldRefusals(t, of(n), input)
		}
	}
}

// P4.4
func TestMachinesShareNothing(t *testing.T) {
	one, other := heads.Drive(t, of(2)), heads.Drive(t, of(3))
	for _, chunk := range []string{"a", "b\nc", "\nd"} {
		one.Feed(chunk)
		if other.Seen.Need == 0 {
			other.Feed(strings.ToUpper(chunk) + "Z")
		}
	}
	if one.Seen.Out != "ab\nc\n" || other.Seen.Out != "AZB\nCZ\n" {
		t.Errorf("%q, %q", one.Seen.Out, other.Seen.Out)
	}
}

// P4.4: answers that are kept stay as they are, whatever comes behind them
func TestAnswersAreNewMemory(t *testing.T) {
	for _, size := range []int{1, 2, 3, 5, 32} {
		heads.HoldAnswers(t, of(greatest), rig.Letters(), size)
	}
}

// P4.6
func TestMoreOfAnInputGoesOnFromWhatCame(t *testing.T) {
	for _, input := range rig.Inputs() {
		for _, n := range counts {
			heads.HoldGrowth(t, of(n), input)
		}
	}
}

// P4.7: without the denotation, and without chunks that are driven by it
func TestTheFirstLinesComeAndNothingIsReadBehindThem(t *testing.T) {
	lines := []string{"one", "", "three", rig.Word(64), "five", "", "", "eight"}
	for have := range len(lines) + 1 {
		input := strings.Join(append(slices.Clone(lines[:have]), ""), "\n")
		for n := range len(lines) + 2 {
			want := strings.Join(append(slices.Clone(lines[:min(n, have)]), ""), "\n")
			m, out, read := heads.Make(t, of(n)), "", 0
			for read < len(input) && m.Need() == 0 {
				outs, e := m.Feed(0, []byte(input[read:read+1]))
				if e != api.OK {
					t.Fatalf("%d of %d lines: %v", n, have, e)
				}
				out += rig.Text(outs)
				read++
			}
			if n <= have && (read != len(want) || m.Need() != api.Ended) {
				t.Errorf("%d of %d lines: %d bytes are read, Need %d; want %d, and ended", n, have, read, m.Need(), len(want))
			}
			if n > have && m.Need() != 0 {
				t.Errorf("%d of %d lines: Need %d ahead of the end", n, have, m.Need())
			}
			m.End(0)
			if out != want {
				t.Errorf("%d of %d lines: %q; want %q", n, have, out, want)
			}
		}
	}
}

// P4.7: what stands behind the last one in its own chunk
func TestNothingIsReadBehindTheLastLineOfAChunk(t *testing.T) {
	for _, behind := range []string{"", "b", "b\n", "\n\n\n", "b\nc\nd", rig.Word(28)} {
		m := heads.Make(t, of(2))
		m.Feed(0, []byte("a\nA"))
		outs, e := m.Feed(0, []byte("B\n"+behind))
		if rig.Text(outs) != "AB\n" || e != api.OK || m.Need() != api.Ended || m.Held() != 0 {
			t.Errorf("%q behind it: %+v, %v, Need %d, Held %d", behind, outs, e, m.Need(), m.Held())
		}
	}
}

// P4.2 to P4.6, of any bytes
func FuzzHead(f *testing.F) {
	f.Add(uint32(2), []byte("a\nb\nc"), []byte{1, 2, 3})
	f.Add(uint32(0), []byte("a"), []byte{})
	f.Add(uint32(3), []byte("a\n"+rig.Word(65)+"\n"), []byte{31, 0})
	f.Add(uint32(greatest), []byte(rig.Word(64)+"\n\n\n"), []byte{7})
	f.Fuzz(func(t *testing.T, n uint32, input, cuts []byte) {
		if len(input) <= 4096 {
			heads.Run(t, of(int(n%(greatest+1))), string(input), rig.Sizes(cuts)...)
		}
	})
}
