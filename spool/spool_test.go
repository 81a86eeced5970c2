package spool

import (
	"fmt"
	"math"
	"slices"
	"sort"
	"strings"
	"testing"

	"penstock/api"
	"penstock/files"
	"penstock/rig"
)

// fill is a line of so many bytes that begins by that.
func fill(head string, size int) string {
	return head + strings.Repeat("x", size-len(head))
}

// all are lines with their ends.
func all(lines ...string) string {
	text := ""
	for _, l := range lines {
		text += l + "\n"
	}
	return text
}

// spread are so many lines of a size, no two of them alike, in no order.
func spread(count, size int) string {
	text := ""
	for i := range count {
		text += fill(fmt.Sprintf("%03d", i*7%101), size) + "\n"
	}
	return text
}

// runs is an input that makes so many runs, of three lines each.
func runs(count int) string { return spread(3*count, 64) }

// open is a text without its last byte: the last line has no end.
func open(text string) string { return text[:len(text)-1] }

// weighing is lines that weigh so much, from 196 to 260: three of 64 bytes, and a last one.
func weighing(weight int) string {
	return spread(3, 64) + fill("", weight-196) + "\n"
}

// fewLines are inputs that are never spilt.
func fewLines() []string {
	return append(rig.Inputs()[:16],
		"a\nb\nc\nd", "d\nc\nb\na\n", "b\na\nc\na\n", "a\na\na", "\n\n\na", "a\n\n\n",
		"ab\na\nabc\n\nab\na", "b\na\x00\na\nab\n\xff\n\x7f\n\x80\n",
		weighing(255), weighing(256), open(weighing(256)), runs(1), strings.Repeat("\n", 256), strings.Repeat("b\na\n", 64),
	)
}

// manyLines are inputs that are.
func manyLines() []string {
	inputs := []string{
		weighing(257), open(weighing(257)), weighing(260), strings.Repeat("\n", 257), strings.Repeat("\n", 257) + "a",
		strings.Repeat("b\na\n", 64) + "a", strings.Repeat("b\na\n", 128) + "\n",
		strings.Repeat(fill("", 64)+"\n", 9), strings.Repeat(fill("", 64)+"\na\n", 9), strings.Repeat("a\nab\nabc\n\n", 70),
		strings.Repeat("\n", 700) + "b\na", spread(100, 9), spread(40, 30) + strings.Repeat("\n", 300),
		"\xff\n" + strings.Repeat(rig.Word(63)+"\n\x00\n", 8) + "\x80",
	}
	for _, count := range []int{2, 3, 4, 5, 6, 7, 10} {
		inputs = append(inputs, runs(count), open(runs(count)), runs(count-1)+"001")
	}
	return inputs
}

// failingLines are inputs with a line that is too long, ahead of the first spill and behind
// it.
func failingLines() []string {
	long := rig.Word(65)
	return []string{
		long, long + "\na\n", "b\na\n" + long, weighing(256) + long, runs(1) + long + "\na\n",
		weighing(257) + long, runs(2) + long, runs(4) + "a\nb\n" + long + "\n" + runs(4),
		runs(1) + fill("", 200) + "\n", weighing(256) + "a\n" + long,
	}
}

// P18.1
func TestNewMakesASorter(t *testing.T) {
	for _, none := range [][]byte{nil, {}} {
		for _, n := range []int{0, 1} {
			d := files.New(fail(0, 3))
			s, e := New(api.Params{Kind: api.KindSort, N: n, A: none, B: none}, d)
			if s == nil || e != api.OK {
				t.Fatalf("N %d: %v, error %d", n, s, e)
			}
			if s.Need() != 0 || s.Held() != 0 || s.Raw() != 0 || d.Calls() != 0 {
				t.Errorf("N %d: Need %d, Held %d, Raw %d, %d calls", n, s.Need(), s.Held(), s.Raw(), d.Calls())
			}
		}
	}
}

// badParams are parameters of a sort that may not be.
func badParams() []rig.Refusal {
	var bad []rig.Refusal
	for _, n := range []int{-1, 2, 3, 256, 1 << 32, math.MinInt, math.MaxInt} {
		bad = append(bad, rig.Refusal{P: of(n), Err: api.ErrParam})
	}
	for _, text := range []string{"a", "\n", strings.Repeat("b", 5000)} {
		bad = append(bad,
			rig.Refusal{P: api.Params{Kind: api.KindSort, A: []byte(text)}, Err: api.ErrParam},
			rig.Refusal{P: api.Params{Kind: api.KindSort, N: 1, B: []byte(text)}, Err: api.ErrParam})
	}
	return bad
}

// P18.1
func TestNewRefuses(t *testing.T) {
	sorts.HoldNew(t, api.KindSort, badParams()...)
}

// P18.1: a nil disk is what is told last.
func TestNewRefusesANilDisk(t *testing.T) {
	without := rig.Subject{New: func(p api.Params) (api.Machine, api.Errno) {
		s, e := New(p, nil)
		if s != nil {
			t.Errorf("New(%+v) of no disk makes a sorter", p)
		}
		return nil, e
	}}
	without.HoldNew(t, api.KindSort, append(badParams(),
		rig.Refusal{P: of(0), Err: api.ErrArg},
		rig.Refusal{P: of(1), Err: api.ErrArg})...)
}

// P18.2
func TestTheChaptersExamples(t *testing.T) {
	for size := 1; size <= 9; size++ {
		for n, want := range [][]string{{"a\n", "a\n", "b\n", "c\n"}, {"c\n", "b\n", "a\n", "a\n"}} {
			d := sorts.Drive(t, of(n))
			if d.Run("b\na\nc\na\n", size); !slices.Equal(d.Answers, want) {
				t.Errorf("N %d by %d bytes: %q; want %q", n, size, d.Answers, want)
			}
		}
	}
}

// P18.2: the denotation is reckoned rightly.
func TestWhatComesOfSomeInputs(t *testing.T) {
	long := rig.Word(64)
	for _, c := range []struct {
		n     int
		input string
		out   string
		err   api.Errno
	}{
		{0, "", "", api.OK},
		{1, "", "", api.OK},
		{0, "\n", "\n", api.OK},
		{0, "a", "a\n", api.OK},
		{0, "a\nb\nc", "a\nb\nc\n", api.OK},
		{0, "c\nb\na", "a\nb\nc\n", api.OK},
		{1, "a\nb\nc", "c\nb\na\n", api.OK},
		{1, "c\nb\na\n", "c\nb\na\n", api.OK},
		{0, "b\n\na\n\n", "\n\na\nb\n", api.OK},
		{1, "b\n\na\n\n", "b\na\n\n\n", api.OK},
		{0, "abc\nab\n\na\nb\n", "\na\nab\nabc\nb\n", api.OK},
		{1, "a\nab\nabc\n\nb", "b\nabc\nab\na\n\n", api.OK},
		{0, "B\na\nA\nb", "A\nB\na\nb\n", api.OK},
		{0, "10\n9\n1\n", "1\n10\n9\n", api.OK},
		{0, "\xff\n\x80\n\x7f\n\x00\n\x09\n\x0b\n", "\x00\n\x09\n\x0b\n\x7f\n\x80\n\xff\n", api.OK},
		{0, "a \na\x00\na\na\x0b\n", "a\na\x00\na\x0b\na \n", api.OK},
		{0, "b\n" + long + "\na", "a\n" + long + "\nb\n", api.OK},
		{0, "b\na\n" + long + "h", "", api.ErrLong},
		{0, long + "h\nb\na\n", "", api.ErrLong},
		{1, long + "\n" + long + "h\n", "", api.ErrLong},
	} {
		want := rig.Seen{Out: c.out, Need: api.Ended, Err: c.err}
		for _, size := range []int{1, 5, 32} {
			if seen := sorts.Run(t, of(c.n), c.input, size); seen != want {
				t.Errorf("N %d of %q, by %d bytes: %+v; want %+v", c.n, c.input, size, seen, want)
			}
		}
	}
}

// P18.2, P18.3, P18.5, P18.6: each step, the disk's calls and files, too, by pieces of several sizes.
func TestEachStep(t *testing.T) {
	for _, input := range slices.Concat(fewLines(), manyLines(), failingLines()) {
		for n := range 2 {
			for _, sizes := range [][]int{{1}, {5, 1, 32, 2}, {32}} {
				for _, ended := range []bool{true, false} {
					x := begin(t, n)
					x.run(rig.Input{Text: input, Ended: ended}, sizes...)
					if x.now.err == api.OK && ended && x.now.disk != "" {
						t.Errorf("N %d of %q: left: %s", n, input, x.now.disk)
					}
					x.close()
				}
			}
		}
	}
}

// P18.2: of few lines there is no file.
func TestFewLinesAreNotSpilt(t *testing.T) {
	for _, input := range fewLines() {
		for n := range 2 {
			x := begin(t, n, fail(0, 7))
			x.run(rig.Ended(input), 32)
			if x.now.calls != 0 || x.now.need != api.Ended || x.now.err != api.OK && x.now.err != api.ErrLong {
				t.Errorf("N %d of %q: %+v", n, input, x.now)
			}
		}
	}
}

// P18.2: a run weighs at most 256, and one more is spilt ahead of the line by which it
// would.
func TestWhatARunWeighs(t *testing.T) {
	for _, c := range []struct {
		input string
		calls int
	}{
		{weighing(256), 0},
		{open(weighing(256)), 0},
		{weighing(257), 4},
		{weighing(256) + "\n", 5},
		{weighing(256) + "a", 0},
		{weighing(255) + "\n", 0},
		{weighing(255) + "\n\n", 6},
		{strings.Repeat("\n", 256), 0},
		{strings.Repeat("\n", 257), 257},
		{strings.Repeat("\n", 512), 257},
		{strings.Repeat("\n", 513), 514},
		{strings.Repeat("a\n", 128), 0},
		{strings.Repeat("a\n", 128) + "\n", 129},
		{strings.Repeat(fill("", 63)+"\n", 4), 0},
		{strings.Repeat(fill("", 63)+"\n", 5), 5},
		{strings.Repeat(fill("", 64)+"\n", 4), 4},
	} {
		x := begin(t, 0)
		if x.feed(c.input, 32); x.now.calls != c.calls || x.now.need != 0 {
			t.Errorf("%q: %d calls, Need %d; want %d", c.input, x.now.calls, x.now.need, c.calls)
		}
	}
}

// P18.2, P18.3: a line a piece, of each kind of runs.
func TestALineComesAPiece(t *testing.T) {
	for _, input := range append(fewLines()[16:], manyLines()...) {
		want := inOrder(0, strings.Split(strings.TrimSuffix(input, "\n"), "\n"))
		for i := range want {
			want[i] += "\n"
		}
		for _, size := range []int{1, 7, 32} {
			d := sorts.Drive(t, of(0))
			if d.Run(input, size); !slices.Equal(d.Answers, want) {
				t.Errorf("%q, by %d bytes: answers %q", input, size, d.Answers)
			}
		}
	}
}

// P18.2: nothing is told ahead of the end, nor behind a line that is too long.
func TestNothingIsToldAheadOfTheEnd(t *testing.T) {
	for n := range 2 {
		s, d := made(t, n)
		for i := range 1000 {
			if outs, e := s.Feed(0, []byte("a\n\nbc\n")); len(outs) != 0 || e != api.OK || s.Need() != 0 {
				t.Fatalf("N %d, chunk %d: %+v, error %d, Need %d", n, i, outs, e, s.Need())
			}
		}
		s.Feed(0, []byte(rig.Word(32)))
		s.Feed(0, []byte(rig.Word(32)))
		calls := d.Calls()
		rig.HoldSteps(t, s, rig.Fails("!", "", api.ErrLong))
		if d.Calls() != calls || len(d.Live()) != 23 || s.Raw() != 0 {
			t.Errorf("N %d: %d calls, files %v, Raw %d; want %d, 23 files", n, d.Calls(), d.Live(), s.Raw(), calls)
		}
	}
}

// P18.2: the byte by which a line is too long, and not its end.
func TestTheLongLineFailsByItsByte(t *testing.T) {
	for n := range 2 {
		sorts.HoldTooLong(t, of(n))
		sorts.HoldTooLong(t, of(n), "b\na\n", "c\n")
		sorts.HoldTooLong(t, of(n), slices.Repeat([]string{fill("", 31) + "\n"}, 30)...)
	}
	x := begin(t, 0)
	x.feed(weighing(256)+rig.Word(64), 32)
	if x.now.held != 316 || x.now.calls != 0 {
		t.Errorf("64 bytes: %+v", x.now)
	}
	x.feed("\n", 1)
	if x.now.held != 64 || x.now.calls != 5 {
		t.Errorf("its end: %+v", x.now)
	}
}

// P18.3: four lines that weigh 256, and one of 64 bytes that is begun. The bound is never
// reached, since ends do not count; reckon's held is held against it at each step.
func TestHeldIsTheRunAndTheLineThatIsBegun(t *testing.T) {
	for n := range 2 {
		x := begin(t, n)
		x.feed(spread(4, 63), 32)
		if x.now.held != 4*63 {
			t.Errorf("four lines: %+v", x.now)
		}
		x.feed(rig.Word(64), 32)
		if x.now.held != 4*63+64 || x.now.calls != 0 {
			t.Errorf("a fifth one: %+v", x.now)
		}
		x.feed("\n", 1)
		if x.now.held != 64 || x.now.calls != 5 {
			t.Errorf("its end: %+v", x.now)
		}
	}
}

// P18.3: of lines that were never spilt, less by each one that was told.
func TestHeldIsLessByEachLine(t *testing.T) {
	s, d := made(t, 0)
	rig.HoldSteps(t, s,
		rig.Behind("ccc\n", "", 0, 3),
		rig.Behind("a\n\nbb", "", 0, 6),
		rig.Behind(rig.End, "", api.More, 6),
		rig.Behind(rig.Piece, "\n", api.More, 6),
		rig.Behind(rig.Piece, "a\n", api.More, 5),
		rig.Behind(rig.Piece, "bb\n", api.More, 3),
		rig.Behind(rig.Piece, "ccc\n", api.Ended, 0))
	if d.Calls() != 0 {
		t.Errorf("%d calls", d.Calls())
	}
}

// P18.4
func TestChunksOfMaxChunkBytesAreTakenAndNoGreaterOnes(t *testing.T) {
	sorts.HoldChunkLimits(t, of(0), of(1))
}

// P18.4
func TestRefusalsChangeNothing(t *testing.T) {
	for _, input := range append(rig.Inputs(), weighing(257), runs(4)+"b", runs(2)+rig.Word(65)) {
		for n := range 2 {
			sorts.HoldRefusals(t, of(n), input)
		}
	}
	for at := range 12 {
		sortsBy(fail(at, 1)).HoldRefusals(t, of(at%2), open(weighing(257)))
	}
}

// P18.4: nor does one call the disk.
func TestRefusalsCallNoDisk(t *testing.T) {
	reading, due := rig.UndueCalls(), rig.UndueCallsOf(-99)[1:]
	for _, script := range [][]api.FileFail{nil, {fail(13, 4)}, {fail(22, 4)}} {
		x := begin(t, 0, script...)
		refuse := func(hold func(t rig.Test, m api.Machine, call rig.Call), calls []rig.Call) {
			for _, c := range calls {
				hold(t, x.s, c)
			}
			x.note(nil, x.now.err)
		}
		refuse(rig.HoldUndue, reading)
		x.feed(runs(2), 32)
		refuse(rig.HoldUndue, reading)
		for x.end(); x.now.need == api.More; x.more(1) {
			refuse(rig.HoldUndue, due)
		}
		refuse(rig.HoldDone, append(due, reading...))
		x.close()
		for _, c := range append(due, reading...) {
			rig.HoldDone(t, x.s, c)
		}
		x.isClosed(x.d.Calls(), x.now.raw)
	}
}

// P18.4
func TestMachinesShareNothing(t *testing.T) {
	one, other := begin(t, 0), begin(t, 1)
	for i := range 20 {
		one.feed(fill(fmt.Sprint(i*3%20), 40)+"\n", 9)
		other.feed(fill(fmt.Sprint(i*7%20), 50)+"\n", 7)
	}
	one.end()
	other.end()
	for range 20 {
		one.more(1)
		other.more(1)
	}
	if one.now.need != api.Ended || other.now.need != api.Ended {
		t.Errorf("Need %d, %d", one.now.need, other.now.need)
	}
}

// P18.4: what is answered is new memory, and what was handed in is not kept.
func TestAnswersAreNewMemory(t *testing.T) {
	for _, size := range []int{1, 2, 3, 5, 32} {
		sorts.HoldAnswers(t, of(1), rig.Letters(), size)
		sorts.HoldAnswers(t, of(0), runs(5), size)
	}
	s, _ := made(t, 0)
	for _, chunk := range slices.Collect(slices.Chunk([]byte(runs(4)), 32)) {
		s.Feed(0, chunk)
	}
	s.End(0)
	var kept []api.Out
	for s.Need() == api.More {
		outs, _ := s.More()
		kept = append(kept, outs...)
	}
	rig.HoldApart(t, kept...)
	if len(kept) != 12 {
		t.Errorf("%d pieces", len(kept))
	}
}

// P18.2: with more of its input, what came out stays.
func TestMoreOfAnInputGoesOnFromWhatCame(t *testing.T) {
	for _, input := range append(rig.Inputs(), weighing(257), open(weighing(257))) {
		for n := range 2 {
			sorts.HoldGrowth(t, of(n), input)
		}
	}
}

// P18.6
func TestTheSameComesByAllChunks(t *testing.T) {
	for _, input := range slices.Concat(fewLines(), manyLines()[:6], failingLines()) {
		for n := range 2 {
			sorts.HoldChunks(t, of(n), input)
		}
	}
	sorts.HoldChunks(t, of(0), runs(4))
	sortsBy(fail(30, 1)).HoldChunks(t, of(1), runs(4))
}

// P18.6: by the same calls.
func TestTheSameCallsByAllChunks(t *testing.T) {
	for _, input := range []string{runs(2) + "b\na", strings.Repeat("\n", 260) + "ab\na", runs(1) + rig.Word(61) + "\n"} {
		want := begin(t, 0)
		want.run(rig.Ended(input), 1)
		for size := 2; size <= 32; size++ {
			for _, first := range []int{1, size} {
				x := begin(t, 0)
				x.feed(input[:first], 32)
				x.run(rig.Ended(input[first:]), size)
				if x.now != want.now {
					t.Fatalf("%q by %d, then %d: %+v; want %+v", input, first, size, x.now, want.now)
				}
			}
		}
	}
}

// P18.7: without the denotation, and without what drives by it.
func TestWhatComesAreTheLinesInOrder(t *testing.T) {
	for seed := range 150 {
		count, lines := seed, []string{}
		for i := range count {
			at := (i*i + seed) * 7919 % 1009
			lines = append(lines, strings.Repeat(string(rune('a'+at%5)), at%64)+string(rune('a'+at%3)))
		}
		input := all(lines...)
		sort.Strings(lines)
		if got := sorts.Told(t, of(0), input, 1+seed%32); got != all(lines...) {
			t.Fatalf("%d lines: %q; want %q", count, got, lines)
		}
		slices.Reverse(lines)
		if got := sorts.Told(t, of(1), input, 1+seed%31); got != all(lines...) {
			t.Fatalf("%d lines, falling: %q; want %q", count, got, lines)
		}
	}
}

// P18.7: bytes are numbers from 0 to 255, in the run and in the merge.
func TestLinesOfEachByte(t *testing.T) {
	var lines []string
	for c := 255; c >= 0; c-- {
		if c != 10 {
			lines = append(lines, string([]byte{byte(c)}))
		}
	}
	for _, pieces := range [][]string{lines, lines[100:200]} {
		rise := slices.Clone(pieces)
		slices.Reverse(rise)
		if got := sorts.Told(t, of(0), all(pieces...), 32); got != all(rise...) {
			t.Errorf("rising: %q", got)
		}
		if got := sorts.Told(t, of(1), all(rise...), 32); got != all(pieces...) {
			t.Errorf("falling: %q", got)
		}
	}
}

// P18.2 to P18.8, of any bytes, by any script.
func FuzzSpool(f *testing.F) {
	f.Add(uint8(0), []byte("b\na"), []byte{1, 2}, []byte{})
	f.Add(uint8(1), []byte(runs(4)), []byte{31, 0}, []byte{40})
	f.Add(uint8(0), []byte(runs(10)), []byte{7}, []byte{})
	f.Add(uint8(0), []byte(weighing(257)), []byte{}, []byte{4, 11})
	f.Add(uint8(1), []byte(runs(2)+rig.Word(65)), []byte{}, []byte{30})
	f.Fuzz(func(t *testing.T, n uint8, input, cuts, fails []byte) {
		if len(input) > 4096 || len(fails) > 8 {
			return
		}
		var script []api.FileFail
		for i, at := range fails {
			script = append(script, fail(int(at), i+1))
		}
		x := begin(t, int(n%2), script...)
		x.run(rig.Ended(string(input)), rig.Sizes(cuts)...)
		if x.now.err == api.OK && x.now.disk != "" {
			t.Fatalf("left: %s", x.now.disk)
		}
	})
}
