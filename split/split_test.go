package split

import (
	"slices"
	"strings"
	"testing"

	"penstock/api"
	"penstock/rig"
)

// splits are what is tested, held against reckon.
var splits = rig.Subject{New: New, Reckon: rig.OfOne(reckon)}

// of makes the parameters of a split.
func of(n int) api.Params {
	return api.Params{Kind: api.KindSplit, N: n}
}

// reckon is the denotation: the k-th line goes to the output k modulo N.
func reckon(p api.Params, in rig.Input) rig.Seen {
	told := make([]string, p.N)
	k := 0
	of := rig.EachLine(in, func(line string) string {
		told[k%p.N] += line + "\n"
		k++
		return ""
	})
	seen := rig.Outputs(told...)
	seen.Need, seen.Err, seen.Held = of.Need, of.Err, of.Held
	return seen
}

// share is what each of n outputs is told of lines: from its own first one on each n-th.
func share(n int, lines ...string) []string {
	told := make([]string, n)
	for port := range told {
		for k := port; k < len(lines); k += n {
			told[port] += lines[k] + "\n"
		}
	}
	return told
}

// behind is what each of n outputs is told of a line behind so many others, by that alone.
func behind(n, others int, text string) []string {
	told := make([]string, n)
	told[others%n] = text + "\n"
	return told
}

// ended is what is seen of a machine that has ended, and told each output that.
func ended(outs ...string) rig.Seen {
	seen := rig.Outputs(outs...)
	seen.Need = api.Ended
	return seen
}

// ends are so many ends of lines.
func ends(count int) string { return strings.Repeat("\n", count) }

// inputs are the rig's, and such as matter to a split: of a few lines, and with empty
// ones among others.
func inputs() []string {
	return append(rig.Inputs(),
		"a\nb", "a\nb\n", "1\n2\n3\n4", "1\n2\n3\n4\n", "1\n2\n3\n4\n5", "1\n2\n3\n4\n5\n",
		"\na", "\n\na", "a\n\n", "a\n\nb\n\n\nc", "\n\n\n\n", "\n\n\n\n\n", "\n\n\n\na",
		"aa\naa\naa\naa\naa\n",
		"\x00\n\x00\x00\n\r\n\r\r\n\xff\n\xff\xff\n\x0b\n\x00\r\xff",
		"\xc3\xa9\n\xe2\x82\xac\n\xc3\n\xd9\xa1",
		ends(32), ends(33), "a"+ends(32), ends(100)+"a",
		rig.Word(32)+"\n"+rig.Word(31)+"\n"+rig.Word(33)+"\n",
		strings.Repeat(rig.Word(64)+"\n", 5)+rig.Word(64),
		rig.Word(64)+ends(32)+"a",
		"a\n"+rig.Word(64)+"!\nb\n",
		"1\n2\n3\n4\n5\n"+rig.Word(65),
		ends(41)+rig.Word(65)+"\n",
		rig.Letters(),
	)
}

// P16.1
func TestNewMakesAMachineOfSplitsAlone(t *testing.T) {
	splits.HoldNewByPorts(t, api.KindSplit)
}

// P16.2
func TestTheChaptersExample(t *testing.T) {
	for _, input := range []string{"a\nb\nc\n", "a\nb\nc"} {
		for size := 1; size <= api.MaxChunk; size++ {
			if seen := splits.Run(t, of(2), input, size); seen != ended("a\nc\n", "b\n") {
				t.Errorf("%q by %d bytes: %+v; want a, c; b", input, size, seen)
			}
		}
	}
}

// P16.2, at each step; P16.3 and P16.5, too, and P16.4's memory
func TestTheDenotationComesByAllChunks(t *testing.T) {
	for _, input := range inputs() {
		for n := 1; n <= api.MaxPorts; n++ {
			for _, ins := range rig.Endings(input) {
				splits.HoldChunksOf(t, of(n), ins)
			}
		}
	}
}

// P16.2: the denotation is reckoned rightly
func TestWhatComesOfSomeInputs(t *testing.T) {
	long := rig.Word(64)
	for _, c := range []struct {
		n     int
		input string
		outs  []string
	}{
		{1, "", []string{""}},
		{1, "\n", []string{"\n"}},
		{1, "a", []string{"a\n"}},
		{1, "a\n", []string{"a\n"}},
		{1, "a\n\nb", []string{"a\n\nb\n"}},
		{2, "", []string{"", ""}},
		{2, "\n", []string{"\n", ""}},
		{2, "\n\n", []string{"\n", "\n"}},
		{2, "\n\n\n", []string{"\n\n", "\n"}},
		{2, "a", []string{"a\n", ""}},
		{2, "a\n", []string{"a\n", ""}},
		{2, "a\nb", []string{"a\n", "b\n"}},
		{2, "a\nb\n", []string{"a\n", "b\n"}},
		{2, "a\n\nb\n\n", []string{"a\nb\n", "\n\n"}},
		{2, "\na\n\nb", []string{"\n\n", "a\nb\n"}},
		{2, "\x00\xff\r\nx\r\n\r", []string{"\x00\xff\r\n\r\n", "x\r\n"}},
		{2, long + "\n" + long, []string{long + "\n", long + "\n"}},
		{3, "", []string{"", "", ""}},
		{3, "a\n", []string{"a\n", "", ""}},
		{3, "a\nb", []string{"a\n", "b\n", ""}},
		{3, "a\nb\nc", []string{"a\n", "b\n", "c\n"}},
		{3, "a\nb\nc\n", []string{"a\n", "b\n", "c\n"}},
		{3, "a\nb\nc\nd", []string{"a\nd\n", "b\n", "c\n"}},
		{3, "1\n2\n3\n4\n5\n6\n7\n8\n", []string{"1\n4\n7\n", "2\n5\n8\n", "3\n6\n"}},
		{4, "", []string{"", "", "", ""}},
		{4, "\n", []string{"\n", "", "", ""}},
		{4, "a\nb\nc", []string{"a\n", "b\n", "c\n", ""}},
		{4, "a\nb\nc\nd", []string{"a\n", "b\n", "c\n", "d\n"}},
		{4, "a\nb\nc\nd\ne", []string{"a\ne\n", "b\n", "c\n", "d\n"}},
		{4, "a\na\na\na\na\na\n", []string{"a\na\n", "a\na\n", "a\n", "a\n"}},
		{4, "1\n2\n3\n4\n5\n6\n7\n8\n9\n10\n11", []string{"1\n5\n9\n", "2\n6\n10\n", "3\n7\n11\n", "4\n8\n"}},
	} {
		for _, size := range []int{1, 2, 5, 32} {
			if seen := splits.Run(t, of(c.n), c.input, size); seen != ended(c.outs...) {
				t.Errorf("N %d, %q, by %d bytes: %+v; want %q", c.n, c.input, size, seen, c.outs)
			}
		}
	}
}

// P16.2: no line, one, fewer than there are outputs, as many, one more, and many
func TestLinesByTheirNumber(t *testing.T) {
	var lines []string
	for count := range 70 {
		for n := 1; n <= api.MaxPorts; n++ {
			want := ended(share(n, lines...)...)
			for _, input := range []string{share(1, lines...)[0], strings.Join(lines, "\n")} {
				for _, size := range []int{1, 7, 32} {
					if seen := splits.Run(t, of(n), input, size); seen != want {
						t.Errorf("N %d, %d lines by %d bytes: %+v; want %+v", n, count, size, seen, want)
					}
				}
			}
		}
		lines = append(lines, rig.Word(count%9+1))
	}
}

// P16.2: by whatever byte but an end of a line, told as it came
func TestEachByteStandsInALine(t *testing.T) {
	for c := range 256 {
		if c == '\n' {
			continue
		}
		text := string([]byte{byte(c)})
		lines := []string{text, "a" + text + "b", text + text, "", text}
		for n := 1; n <= api.MaxPorts; n++ {
			got := splits.ToldEach(t, of(n), strings.Join(lines, "\n"), 3)
			if want := share(n, lines...); !slices.Equal(got, want) {
				t.Errorf("N %d of %q: %q; want %q", n, lines, got, want)
			}
		}
	}
}

// P16.2: all that can be said of a chunk is said with it, up to 32 lines; and the turns
// go on behind it
func TestAChunkOfEndsComesToOneAnswer(t *testing.T) {
	for n := 1; n <= api.MaxPorts; n++ {
		for count := 1; count <= api.MaxChunk; count++ {
			d := splits.Drive(t, of(n))
			for _, chunk := range []string{ends(count), "a\n", ends(count)} {
				d.Feed(chunk)
			}
			lines := slices.Concat(make([]string, count), []string{"a"}, make([]string, count))
			want := rig.Outputs(share(n, lines...)...)
			if d.Seen != want || len(d.Answers) != 3 || len(d.Answers[0]) != count || len(d.Answers[2]) != count {
				t.Errorf("N %d, %d ends of lines: %q, %+v; want %+v", n, count, d.Answers, d.Seen, want)
			}
		}
	}
}

// P16.2 and P16.3: a line is told by the chunk that ends it; what is begun is held
func TestALineIsToldByTheChunkThatEndsIt(t *testing.T) {
	long := rig.Word(64)
	rig.HoldSteps(t, splits.Make(t, of(3)),
		rig.BehindEach("a", 0, 1),
		rig.BehindEach("b", 0, 2),
		rig.BehindEach("\n", 0, 0, "ab\n"),
		rig.BehindEach("\n", 0, 0, "", "\n"),
		rig.BehindEach("x\n0 y\n\nz", 0, 1, "0 y\n", "\n", "x\n"),
		rig.BehindEach("z\n\n ", 0, 1, "\n", "", "zz\n"),
		rig.BehindEach("\n", 0, 0, "", " \n"),
		rig.BehindEach("\x00\xff\r", 0, 3),
		rig.BehindEach("\n", 0, 0, "", "", "\x00\xff\r\n"),
		rig.BehindEach(long[:32], 0, 32),
		rig.BehindEach(long[32:63], 0, 63),
		rig.BehindEach(long[63:], 0, 64),
		rig.BehindEach("\n", 0, 0, long+"\n"),
		rig.BehindEach(ends(32), 0, 0, ends(10), ends(11), ends(11)),
		rig.BehindEach(ends(31)+"a", 0, 1, ends(11), ends(10), ends(10)),
		rig.BehindEach(ends(32), 0, 0, ends(10), "a\n"+ends(10), ends(11)),
		rig.BehindEach(rig.Word(31)+"\n", 0, 0, rig.Word(31)+"\n"),
		rig.BehindEach("last", 0, 4),
		rig.BehindEach(rig.End, api.Ended, 0, "", "last\n"),
	)
	rig.HoldSteps(t, splits.Make(t, of(1)),
		rig.BehindEach("a\n\nb", 0, 1, "a\n\n"),
		rig.BehindEach("\n\n", 0, 0, "b\n\n"),
		rig.BehindEach(rig.End, api.Ended, 0),
	)
}

// P16.2: it is told with its end, to the output whose turn it is
func TestEndTellsALastLineWithoutItsEnd(t *testing.T) {
	for n := 1; n <= api.MaxPorts; n++ {
		for ahead := range 10 {
			for _, last := range []string{"b", " ", "\x00", "\r", rig.Word(32)} {
				m := splits.Make(t, of(n))
				if ahead > 0 {
					rig.HoldSteps(t, m, rig.BehindEach(ends(ahead), 0, 0, share(n, make([]string, ahead)...)...))
				}
				rig.HoldSteps(t, m,
					rig.BehindEach(last, 0, len(last)),
					rig.BehindEach(rig.End, api.Ended, 0, behind(n, ahead, last)...),
				)
			}
		}
	}
}

// P16.2: an end behind a line's end tells nothing, nor does that of no byte
func TestEndBehindALinesEndTellsNothing(t *testing.T) {
	for n := 1; n <= api.MaxPorts; n++ {
		rig.HoldSteps(t, splits.Make(t, of(n)), rig.BehindEach(rig.End, api.Ended, 0))
		for _, lines := range [][]string{{""}, {"a"}, {"a", ""}, {"", "a"}, {rig.Word(31)}, {"a", "b", "c", "d"}, {"a", "b", "c", "d", "e"}, make([]string, 32)} {
			rig.HoldSteps(t, splits.Make(t, of(n)),
				rig.BehindEach(share(1, lines...)[0], 0, 0, share(n, lines...)...),
				rig.BehindEach(rig.End, api.Ended, 0),
			)
		}
	}
}

// P16.2: an input that has not ended is read on; that it fails is no call of the machine
func TestAnInputThatDoesNotEndIsReadOn(t *testing.T) {
	for n := 1; n <= api.MaxPorts; n++ {
		d := splits.Drive(t, of(n))
		var lines []string
		for range 200 {
			d.Feed("ab\n\nc")
			d.Feed("d\ne")
			lines = append(lines, "ab", "", "cd")
			want := rig.Outputs(share(n, lines...)...)
			want.Held = 1
			if d.Seen != want {
				t.Fatalf("N %d: %+v; want a line that is not told yet", n, d.Seen)
			}
			d.Feed("\nf\n")
			lines = append(lines, "e", "f")
		}
		if want := rig.Outputs(share(n, lines...)...); d.Seen != want {
			t.Errorf("N %d: %+v; want one that reads on", n, d.Seen)
		}
		d.Feed("g")
		d.End()
		if want := ended(share(n, append(lines, "g")...)...); d.Seen != want {
			t.Errorf("N %d, behind the end: %+v", n, d.Seen)
		}
	}
}

// P16.2 and P16.5: what was told ahead of a line that is too long, and nothing behind it,
// ended or not
func TestTheLongLineFails(t *testing.T) {
	for _, ahead := range [][]string{nil, {""}, {"a", "b"}, {rig.Word(64)}, {"a", "", "b", "", "c"}, make([]string, 33)} {
		for _, long := range []string{rig.Word(65), strings.Repeat(" ", 65), strings.Repeat("\x00", 66), rig.Word(200)} {
			for _, behind := range []string{"", "\n", "\na\nb\n"} {
				input := share(1, ahead...)[0] + long + behind
				for n := 1; n <= api.MaxPorts; n++ {
					want := ended(share(n, ahead...)...)
					want.Err = api.ErrLong
					for _, size := range []int{1, 2, 3, 16, 31, 32} {
						seen := splits.Run(t, of(n), input, size)
						seen.Held = 0
						if seen != want {
							t.Errorf("N %d, %q by %d bytes: %+v; want %+v", n, input, size, seen, want)
						}
					}
				}
			}
		}
	}
}

// P16.2: by the byte with which it is too long; of 64 bytes it is not
func TestTheLongLineFailsByItsByte(t *testing.T) {
	for n := 1; n <= api.MaxPorts; n++ {
		for _, last := range []string{"!", "!\nb\n", " ", "\x00", "\r\n", "\xff"} {
			d := splits.Drive(t, of(n))
			d.Feed("a\n\n" + rig.Word(26))
			d.Feed(rig.Word(32))
			d.Feed("uvwxyz")
			want := rig.Outputs(share(n, "a", "")...)
			want.Held = 64
			if d.Seen != want {
				t.Fatalf("N %d, 64 bytes: %+v", n, d.Seen)
			}
			d.Feed(last)
			want.Need, want.Err, want.Held = api.Ended, api.ErrLong, d.Seen.Held
			if d.Seen != want {
				t.Errorf("N %d, one more: %+v; want ErrLong", n, d.Seen)
			}
			d.Pester()
		}
	}
}

// P16.2: a line of 64 bytes is told, by its end or by the input's, whoever's turn it is
func TestALineOf64BytesIsNotTooLong(t *testing.T) {
	for n := 1; n <= api.MaxPorts; n++ {
		lines := slices.Repeat([]string{rig.Word(64)}, n+1)
		for _, input := range []string{share(1, lines...)[0], strings.Join(lines, "\n")} {
			for size := 1; size <= api.MaxChunk; size++ {
				if seen := splits.Run(t, of(n), input, size); seen != ended(share(n, lines...)...) {
					t.Errorf("N %d, by %d bytes: %+v", n, size, seen)
				}
			}
		}
	}
}

// P16.3: neither what was told nor ends of lines are held
func TestHeldIsTheLineThatIsBegun(t *testing.T) {
	for n := 1; n <= api.MaxPorts; n++ {
		m := splits.Make(t, of(n))
		for k := range 5 {
			for begun := range 64 {
				rig.HoldSteps(t, m, rig.BehindEach("x", 0, begun+1))
			}
			rig.HoldSteps(t, m,
				rig.BehindEach("\n", 0, 0, behind(n, 2*k, strings.Repeat("x", 64))...),
				rig.BehindEach("\n", 0, 0, behind(n, 2*k+1, "")...),
			)
		}
		rig.HoldSteps(t, m, rig.BehindEach("rest", 0, 4), rig.BehindEach(rig.End, api.Ended, 0, behind(n, 10, "rest")...))
	}
}

// P16.4
func TestChunksOfMaxChunkBytesAreTakenAndNoGreaterOnes(t *testing.T) {
	splits.HoldChunkLimits(t, of(1), of(2), of(3), of(4))
}

// P16.4: ahead of each step, behind the end, and behind a line that is too long
func TestRefusalsChangeNothing(t *testing.T) {
	for _, input := range inputs() {
		for n := 1; n <= api.MaxPorts; n++ {
			splits.HoldRefusals(t, of(n), input)
		}
	}
}

// P16.4: one by one, at each of the turns: ports that are outputs, and such as there are
// not; chunks of no bytes, and of too many; More
func TestWhatIsRefusedTakesNoTurn(t *testing.T) {
	for n := 1; n <= api.MaxPorts; n++ {
		for _, call := range rig.UndueCallsOf(0) {
			m := splits.Make(t, of(n))
			rig.HoldUndue(t, m, call)
			rig.HoldSteps(t, m, rig.BehindEach("a", 0, 1))
			for ahead := range 6 {
				rig.HoldUndue(t, m, call)
				rig.HoldSteps(t, m, rig.BehindEach("\na", 0, 1, behind(n, ahead, "a")...))
			}
			rig.HoldUndue(t, m, call)
			rig.HoldSteps(t, m, rig.BehindEach(rig.End, api.Ended, 0, behind(n, 6, "a")...))
			rig.HoldDone(t, m, call)
		}
	}
}

// P16.4: whatever is called, also what was due ahead of the end
func TestBehindTheEndAllIsRefused(t *testing.T) {
	calls := append(rig.UndueCallsOf(-4),
		rig.Call{Name: "End", Make: func(m api.Machine) ([]api.Out, api.Errno) { return m.End(0) }},
		rig.FeedOf(0, []byte("a")), rig.FeedOf(0, []byte("\n")), rig.FeedOf(0, []byte(ends(32))),
	)
	for n := 1; n <= api.MaxPorts; n++ {
		for _, input := range []string{"", "a", "a\n", "a\nb"} {
			m := splits.Make(t, of(n))
			if input != "" {
				m.Feed(0, []byte(input))
			}
			m.End(0)
			for _, call := range append(calls, calls...) {
				rig.HoldDone(t, m, call)
			}
		}
	}
}

// P16.4: also behind a line that is too long, whatever it holds then
func TestBehindALineThatIsTooLongAllIsRefused(t *testing.T) {
	for n := 1; n <= api.MaxPorts; n++ {
		splits.HoldTooLong(t, of(n))
		for _, ahead := range []string{"", "\n", "a\nb\nc\n"} {
			d := splits.Drive(t, of(n))
			d.Pesters = true
			d.Run(ahead+rig.Word(65), 32)
			for range 2 {
				for _, call := range []rig.Call{rig.FeedOf(0, []byte("\n")), rig.FeedOf(0, []byte("a\n")), rig.FeedOf(0, nil)} {
					if outs, e := call.Make(d.Machine); len(outs) != 0 || e != api.ErrDone || d.Machine.Need() != api.Ended {
						t.Errorf("N %d, %s: %+v, %v, Need %d; want ErrDone", n, call.Name, outs, e, d.Machine.Need())
					}
				}
				if outs, e := d.Machine.End(0); len(outs) != 0 || e != api.ErrDone || d.Machine.Need() != api.Ended {
					t.Errorf("N %d, End: %+v, %v, Need %d; want ErrDone", n, outs, e, d.Machine.Need())
				}
			}
		}
	}
}

// P16.4: each has its own turns, also of one N, and of machines made between
func TestMachinesShareNothing(t *testing.T) {
	one, other := splits.Drive(t, of(2)), splits.Drive(t, of(2))
	for _, chunk := range []string{"a", "b\nc", "\nd", "d\ne"} {
		one.Feed(chunk)
		other.Feed(strings.ToUpper(chunk) + "\n")
	}
	third := splits.Drive(t, of(3))
	for _, d := range []*rig.Driver{third, other, one} {
		d.Feed("z")
		d.End()
	}
	for _, c := range []struct {
		d    *rig.Driver
		want rig.Seen
	}{
		{one, ended("ab\ndd\n", "c\nez\n")},
		{other, ended("A\nC\nD\nE\n", "B\n\nD\nz\n")},
		{third, ended("z\n", "", "")},
	} {
		if c.d.Seen != c.want {
			t.Errorf("%+v; want %+v", c.d.Seen, c.want)
		}
	}
}

// P16.4: what is written over a chunk behind Feed plays no part
func TestChunksAreNeitherKeptNorChanged(t *testing.T) {
	for n := 1; n <= api.MaxPorts; n++ {
		m := splits.Make(t, of(n))
		chunk := make([]byte, 4, 8)
		var kept []api.Out
		for _, text := range []string{"a\nbc", "defg", "h\n\nx"} {
			copy(chunk, text)
			outs, e := m.Feed(0, chunk)
			if string(chunk) != text || e != api.OK {
				t.Errorf("N %d: %q is %q behind Feed, %v", n, text, chunk, e)
			}
			copy(chunk[:cap(chunk)], "\n!\n!\n!\n!")
			kept = append(kept, outs...)
		}
		outs, _ := m.End(0)
		told := make([]string, n)
		for _, o := range append(kept, outs...) {
			told[o.Port] += string(o.Bytes)
		}
		if want := share(n, "a", "bcdefgh", "", "x"); !slices.Equal(told, want) {
			t.Errorf("N %d: %q; want %q", n, told, want)
		}
	}
}

// P16.4: answers that are kept stay as they are, whatever comes behind them
func TestAnswersAreNewMemory(t *testing.T) {
	for size := 1; size <= api.MaxChunk; size++ {
		for n := 1; n <= api.MaxPorts; n++ {
			splits.HoldAnswers(t, of(n), rig.Letters(), size)
			splits.HoldAnswers(t, of(n), ends(70)+"a", size)
		}
	}
}

// P16.4: no two answers, nor two parts of one, share memory
func TestAnswersShareNothing(t *testing.T) {
	for n := 1; n <= api.MaxPorts; n++ {
		m := splits.Make(t, of(n))
		var kept []api.Out
		for range 3 {
			outs, _ := m.Feed(0, []byte("a\na\na\na\n\nb"))
			kept = append(kept, outs...)
		}
		outs, _ := m.End(0)
		rig.HoldApart(t, append(kept, outs...)...)
	}
}

// P16.6: with more of the input, and behind its end
func TestMoreOfAnInputGoesOnFromWhatCame(t *testing.T) {
	for _, input := range inputs() {
		for n := 1; n <= api.MaxPorts; n++ {
			splits.HoldGrowth(t, of(n), input)
		}
	}
}

// P16.7: without the denotation, and without what drives by it
func TestTakenByTurnsTheLinesAreTheInputs(t *testing.T) {
	for _, input := range inputs() {
		if rig.HasTooLong(input) {
			continue
		}
		for n := 1; n <= api.MaxPorts; n++ {
			for _, size := range []int{1, 3, 31, 32} {
				holdByTurns(t, input, splits.ToldEach(t, of(n), input, size))
			}
		}
	}
}

// P16.7: of all inputs of a few bytes
func TestSmallInputsAreSplit(t *testing.T) {
	for _, input := range rig.SmallInputs(7) {
		for n := 1; n <= api.MaxPorts; n++ {
			holdByTurns(t, input, splits.ToldEach(t, of(n), input, 2))
		}
	}
}

// holdByTurns takes the lines of outputs by turns, till the one whose turn it is has
// none: then all are taken, and they are the input's.
func holdByTurns(t *testing.T, input string, outs []string) {
	t.Helper()
	taken, left := "", slices.Clone(outs)
	for k := 0; left[k%len(left)] != ""; k++ {
		text, rest, whole := strings.Cut(left[k%len(left)], "\n")
		if !whole {
			t.Fatalf("%q comes to %q: a line without its end", input, outs)
		}
		taken += text + "\n"
		left[k%len(left)] = rest
	}
	if taken != rig.LastEnded(input) || strings.Join(left, "") != "" {
		t.Errorf("%q comes to %q: by turns %q, and %q is left", input, outs, taken, left)
	}
}

// P16.2 to P16.7, of any bytes
func FuzzSplit(f *testing.F) {
	f.Add(uint8(1), []byte("a\nb\nc"), []byte{1, 2, 3}, true)
	f.Add(uint8(3), []byte("a\n\x00\nc\xff\n\n"), []byte{31, 0}, false)
	f.Add(uint8(0), []byte(""), []byte{}, true)
	f.Add(uint8(2), []byte(rig.Word(64)+"\n"+rig.Word(65)+"\n"), []byte{7}, true)
	f.Fuzz(func(t *testing.T, count uint8, input, cuts []byte, isEnded bool) {
		if len(input) > 4096 {
			return
		}
		p := of(int(count)%api.MaxPorts + 1)
		in := rig.Input{Text: string(input), Ended: isEnded}
		seen := splits.RunOf(t, p, []rig.Input{in}, rig.Sizes(cuts)...)
		if isEnded && seen.Err == api.OK {
			holdByTurns(t, in.Text, splits.ToldEach(t, p, in.Text, 5))
		}
	})
}
