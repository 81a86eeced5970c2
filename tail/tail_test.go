package tail

import (
	"slices"
	"strings"
	"testing"

	"penstock/api"
	"penstock/rig"
)

// greatest is the greatest N of which a tail holds no more than it may.
const greatest = 31

// tails are what is tested, held against reckon.
var tails = rig.Subject{New: New, Reckon: rig.OfOne(reckon)}

// counts are the Ns that the inputs are tried with.
var counts = []int{0, 1, 2, 3, 4, 5, 30, greatest}

// of makes the parameters of a tail.
func of(n int) api.Params {
	return api.Params{Kind: api.KindTail, N: n}
}

// inputs are the rig's, and such as matter to a tail.
func inputs() []string {
	return append(rig.Inputs(),
		"\n\n\nlast",
		rig.Word(65)+"\na\nb\n",
		"a\n"+rig.Word(65)+"\nb\nc\nd\ne\nf\n",
		"a\nb\nc\nd\ne\nf\n"+rig.Word(64)+"\n"+rig.Word(65),
		strings.Repeat("a\nbb\nccc\n", 40),
		strings.Repeat(rig.Word(64)+"\n", 4)+rig.Word(63),
	)
}

// linesOf are the lines of an ended input.
func linesOf(input string) []string {
	lines := strings.Split(input, "\n")
	if last := len(lines) - 1; lines[last] == "" {
		return lines[:last]
	}
	return lines
}

// sizeOf is how many bytes lines have, without their ends.
func sizeOf(lines []string) int {
	return len(strings.Join(lines, ""))
}

// lastOf are the last n of lines.
func lastOf(n int, lines []string) []string {
	return lines[max(0, len(lines)-n):]
}

// reckon is the denotation.
func reckon(p api.Params, in rig.Input) rig.Seen {
	lines := strings.Split(in.Text, "\n")
	for _, text := range lines {
		if len(text) > 64 {
			return rig.Seen{Need: api.Ended, Err: api.ErrLong}
		}
	}
	if in.Ended {
		kept := lastOf(p.N, linesOf(in.Text))
		return rig.Seen{Out: strings.Join(append(slices.Clone(kept), ""), "\n"), Need: api.Ended}
	}
	begun := len(lines) - 1
	return rig.Seen{Held: len(lines[begun]) + sizeOf(lastOf(p.N, lines[:begun]))}
}

// P5.1
func TestNewMakesAMachineOfTailsAlone(t *testing.T) {
	for n := range greatest + 1 {
		if m := tails.Make(t, of(n)); m.Need() != 0 || m.Held() != 0 {
			t.Errorf("N %d: Need %d, Held %d; want 0, 0", n, m.Need(), m.Held())
		}
	}
	tails.Make(t, api.Params{Kind: api.KindTail, N: 3, A: []byte{}, B: []byte{}})
}

// P5.1
func TestNewRefuses(t *testing.T) {
	tails.HoldNew(t, api.KindTail,
		rig.Refusal{P: of(-1), Err: api.ErrParam},
		rig.Refusal{P: of(-1 << 63), Err: api.ErrParam},
		rig.Refusal{P: of(greatest + 1), Err: api.ErrState},
		rig.Refusal{P: of(1 << 58), Err: api.ErrState},
		rig.Refusal{P: of(1<<63 - 1), Err: api.ErrState},
		rig.Refusal{P: api.Params{Kind: api.KindTail, N: 1, A: []byte("a")}, Err: api.ErrParam},
		rig.Refusal{P: api.Params{Kind: api.KindTail, N: 1, B: []byte("b")}, Err: api.ErrParam},
		rig.Refusal{P: api.Params{Kind: api.KindTail, N: greatest + 1, A: []byte("a")}, Err: api.ErrParam},
	)
}

// P5.2
func TestTheChaptersExample(t *testing.T) {
	for size := 1; size <= 6; size++ {
		d := tails.Drive(t, of(2))
		d.Run("a\nb\nc\n", size)
		if !slices.Equal(d.Answers, []string{"b\n", "c\n"}) {
			t.Errorf("by %d bytes: %q; want b and c, a line a piece", size, d.Answers)
		}
	}
}

// P5.2, at each step; P5.3 and P5.5, too, and P5.4's memory
func TestTheDenotationComesByAllChunks(t *testing.T) {
	for _, input := range inputs() {
		for _, n := range counts {
			tails.HoldChunks(t, of(n), input)
		}
	}
}

// P5.2: the denotation is reckoned rightly
func TestWhatComesOfSomeInputs(t *testing.T) {
	long := rig.Word(64)
	for _, c := range []struct {
		n     int
		input string
		out   string
		err   api.Errno
	}{
		{0, "", "", api.OK},
		{0, "a\nb", "", api.OK},
		{1, "", "", api.OK},
		{1, "\n", "\n", api.OK},
		{1, "a", "a\n", api.OK},
		{1, "a\n", "a\n", api.OK},
		{1, "a\nb", "b\n", api.OK},
		{1, "a\nb\n", "b\n", api.OK},
		{1, "a\n\n", "\n", api.OK},
		{2, "a\n\nb\n", "\nb\n", api.OK},
		{2, "\n\n\n", "\n\n", api.OK},
		{3, "a\nb", "a\nb\n", api.OK},
		{3, "a\nb\nc", "a\nb\nc\n", api.OK},
		{3, "a\nb\nc\n", "a\nb\nc\n", api.OK},
		{3, "a\nb\nc\nd", "b\nc\nd\n", api.OK},
		{3, "a\nb\nc\nd\n", "b\nc\nd\n", api.OK},
		{2, "1\n2\n3\n4\n5\n6\n7\n8\n9", "8\n9\n", api.OK},
		{greatest, "a\nb\nc\n\n", "a\nb\nc\n\n", api.OK},
		{1, "a\n" + long, long + "\n", api.OK},
		{1, "a\n" + long + "\n", long + "\n", api.OK},
		{1, long + "\na", "a\n", api.OK},
		{2, long + "h", "", api.ErrLong},
		{2, long + "h\n", "", api.ErrLong},
		{2, long + "h\na\nb\nc\n", "", api.ErrLong},
		{2, "a\nb\nc\n" + long + "h", "", api.ErrLong},
		{2, "a\nb\nc\n" + long + "h\nd\n", "", api.ErrLong},
		{0, "a\n" + long + "h", "", api.ErrLong},
	} {
		want := rig.Seen{Out: c.out, Need: api.Ended, Err: c.err}
		for _, size := range []int{1, 5, 32} {
			seen := tails.Run(t, of(c.n), c.input, size)
			if seen.Out != want.Out || seen.Need != want.Need || seen.Err != want.Err {
				t.Errorf("N %d of %q, by %d bytes: %+v; want %+v", c.n, c.input, size, seen, want)
			}
		}
	}
}

// P5.2
func TestNothingIsToldAheadOfTheEnd(t *testing.T) {
	for _, n := range counts {
		m := tails.Make(t, of(n))
		for i := range 500 {
			outs, e := m.Feed(0, []byte("a\n\nbc\n"))
			if len(outs) != 0 || e != api.OK || m.Need() != 0 {
				t.Fatalf("N %d, chunk %d: %+v, %v, Need %d", n, i, outs, e, m.Need())
			}
		}
	}
}

// P5.2: together they are more than one answer may have, just as much, and one byte more
func TestALineComesAPiece(t *testing.T) {
	long := rig.Word(64)
	full := strings.Repeat(long+"\n", 15)
	for _, c := range []struct {
		n     int
		input string
	}{
		{1, long + "\n"},
		{2, "a\nb"},
		{16, full + rig.Word(48)},
		{16, full + rig.Word(49)},
		{16, full + long},
		{greatest, full + full + long + "\n"},
		{greatest, "a\nb\n" + full + full + long},
		{greatest, strings.Repeat("\n", 80)},
	} {
		var want []string
		for _, text := range lastOf(c.n, linesOf(c.input)) {
			want = append(want, text+"\n")
		}
		for _, size := range []int{1, 7, 32} {
			d := tails.Drive(t, of(c.n))
			if d.Run(c.input, size); !slices.Equal(d.Answers, want) {
				t.Errorf("N %d of %q, by %d bytes: answers %q; want %q", c.n, c.input, size, d.Answers, want)
			}
		}
	}
}

// P5.2
func TestATailOfNoLinesReadsItsInputAllTheSame(t *testing.T) {
	d := tails.Drive(t, of(0))
	d.Feed("a\nb\nc")
	if d.Seen != (rig.Seen{Held: 1}) {
		t.Errorf("a, b, c: %+v; want one that reads on, and holds c", d.Seen)
	}
	d.End()
	if d.Seen != (rig.Seen{Need: api.Ended}) {
		t.Errorf("behind the end: %+v; want one that has ended", d.Seen)
	}
}

// P5.2
func TestTheLongLineFailsByItsByte(t *testing.T) {
	for _, n := range counts {
		d := tails.Drive(t, of(n))
		d.Feed("a\n" + rig.Word(30))
		d.Feed(rig.Word(32))
		d.Feed("yz")
		if d.Seen.Need != 0 || d.Seen.Err != api.OK {
			t.Fatalf("N %d, 64 bytes: %+v", n, d.Seen)
		}
		d.Feed("!")
		if d.Seen.Out != "" || d.Seen.Need != api.Ended || d.Seen.Err != api.ErrLong {
			t.Errorf("N %d, one more: %+v; want ErrLong", n, d.Seen)
		}
		d.Pester()
	}
}

// P5.3
func TestHeldIsTheLineThatIsBegunAndTheKeptOnes(t *testing.T) {
	m := tails.Make(t, of(2))
	for _, c := range []struct {
		chunk string
		held  int
	}{
		{"a", 1},
		{"bc", 3},
		{"\n", 3},
		{"\n", 3},
		{"xyz", 6},
		{"\n", 3},
		{"pq\nr", 6},
		{rig.Word(32), 38},
		{rig.Word(31), 69},
		{"\n", 66},
		{"\n\n", 0},
	} {
		if outs, e := m.Feed(0, []byte(c.chunk)); len(outs) != 0 || e != api.OK || m.Held() != c.held {
			t.Errorf("behind %q: %+v, %v, Held %d; want %d", c.chunk, outs, e, m.Held(), c.held)
		}
	}
}

// P5.3: at the most that a tail may hold
func TestHeldComesUpToTheBound(t *testing.T) {
	for n := range greatest + 1 {
		d := tails.Drive(t, of(n))
		for range 2*n + 1 {
			d.Feed(rig.Word(32))
			d.Feed(rig.Word(32))
			d.Feed("\n")
		}
		d.Feed(rig.Word(32))
		d.Feed(rig.Word(32))
		if d.Seen.Held != 64+64*n {
			t.Errorf("N %d: Held %d; want %d", n, d.Seen.Held, 64+64*n)
		}
	}
}

// P5.3: a line that was told is kept no more
func TestHeldIsLessByEachLineThatWasTold(t *testing.T) {
	for _, n := range counts {
		for _, input := range []string{"", "\n", "a\nbb\nccc\ndddd", "xyz\n\n\npq\n\nr"} {
			m, out := tails.Make(t, of(n)), ""
			if input != "" {
				m.Feed(0, []byte(input))
			}
			kept := sizeOf(lastOf(n, linesOf(input)))
			outs, e := m.End(0)
			for range greatest + 1 {
				out += rig.Text(outs)
				if told := sizeOf(linesOf(out)); e != api.OK || m.Held() != kept-told {
					t.Fatalf("N %d of %q, told %q: %v, Held %d; want %d", n, input, out, e, m.Held(), kept-told)
				}
				if m.Need() != api.More {
					break
				}
				outs, e = m.More()
			}
			if m.Need() != api.Ended || m.Held() != 0 {
				t.Errorf("N %d of %q, in the end: Need %d, Held %d", n, input, m.Need(), m.Held())
			}
		}
	}
}

// P5.4
func TestChunksOfMaxChunkBytesAreTakenAndNoGreaterOnes(t *testing.T) {
	tails.HoldChunkLimits(t, of(0), of(3))
}

// P5.4
func TestRefusalsChangeNothing(t *testing.T) {
	for _, input := range inputs() {
		for _, n := range []int{0, 1, 2, 3, greatest} {
			tails.HoldRefusals(t, of(n), input)
		}
	}
}

// P5.4: the number of Need while pieces are due is no input's
func TestNoInputIsTakenWhilePiecesAreDue(t *testing.T) {
	m := tails.Make(t, of(3))
	m.Feed(0, []byte("a\nb\nc\n"))
	m.End(0)
	if m.Need() != api.More {
		t.Fatalf("Need %d with lines to be told; want More", m.Need())
	}
	for _, port := range []int{api.More, api.Ended, 0, 1} {
		if outs, e := m.Feed(port, []byte("x\n")); len(outs) != 0 || e != api.ErrArg {
			t.Errorf("Feed of %d: %+v, %v; want ErrArg", port, outs, e)
		}
		if outs, e := m.End(port); len(outs) != 0 || e != api.ErrArg {
			t.Errorf("End of %d: %+v, %v; want ErrArg", port, outs, e)
		}
	}
	if m.Need() != api.More {
		t.Errorf("Need %d behind refusals; want More", m.Need())
	}
}

// P5.4
func TestMachinesShareNothing(t *testing.T) {
	one, other := tails.Drive(t, of(2)), tails.Drive(t, of(3))
	for _, chunk := range []string{"a", "b\nc", "\nd\n", "e"} {
		one.Feed(chunk)
		other.Feed(strings.ToUpper(chunk) + "Z")
	}
	one.End()
	other.Feed("\n")
	other.End()
	if one.Seen.Out != "d\ne\n" || other.Seen.Out != "CZ\nD\nZEZ\n" {
		t.Errorf("%q, %q", one.Seen.Out, other.Seen.Out)
	}
}

// P5.4: answers that are kept stay as they are, whatever comes behind them
func TestAnswersAreNewMemory(t *testing.T) {
	for _, size := range []int{1, 2, 3, 5, 32} {
		tails.HoldAnswers(t, of(26), rig.Letters(), size)
	}
}

// P5.6
func TestMoreOfAnInputGoesOnFromWhatCame(t *testing.T) {
	for _, input := range inputs() {
		for _, n := range counts {
			tails.HoldGrowth(t, of(n), input)
		}
	}
}

// P5.7: without the denotation, and without what drives by it
func TestTheLastLinesCome(t *testing.T) {
	lines := []string{"one", "", "three", rig.Word(64), "five", "", "", "eight"}
	for have := range len(lines) + 1 {
		input := ""
		for _, text := range lines[:have] {
			input += text + "\n"
		}
		for n := range len(lines) + 2 {
			want := ""
			for i := max(0, have-n); i < have; i++ {
				want += lines[i] + "\n"
			}
			m, out := tails.Make(t, of(n)), ""
			for i := range len(input) {
				outs, e := m.Feed(0, []byte(input[i:i+1]))
				if len(outs) != 0 || e != api.OK || m.Need() != 0 {
					t.Fatalf("%d of %d lines: %+v, %v, Need %d ahead of the end", n, have, outs, e, m.Need())
				}
			}
			outs, e := m.End(0)
			out += rig.Text(outs)
			for range have {
				if e == api.OK && m.Need() == api.More {
					outs, e = m.More()
					out += rig.Text(outs)
				}
			}
			if out != want || e != api.OK || m.Need() != api.Ended {
				t.Errorf("%d of %d lines: %q, %v, Need %d; want %q, and ended", n, have, out, e, m.Need(), want)
			}
		}
	}
}

// P5.2 to P5.6, of any bytes
func FuzzTail(f *testing.F) {
	f.Add(uint8(2), []byte("a\nb\nc"), []byte{1, 2, 3})
	f.Add(uint8(0), []byte("a"), []byte{})
	f.Add(uint8(3), []byte("a\n"+rig.Word(65)+"\n"), []byte{31, 0})
	f.Add(uint8(greatest), []byte(rig.Word(64)+"\n\n\n"), []byte{7})
	f.Fuzz(func(t *testing.T, n uint8, input, cuts []byte) {
		if len(input) <= 4096 {
			tails.Run(t, of(int(n%(greatest+1))), string(input), rig.Sizes(cuts)...)
		}
	})
}
