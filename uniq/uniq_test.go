package uniq

import (
	"slices"
	"strconv"
	"strings"
	"testing"

	"penstock/api"
	"penstock/rig"
)

// uniqs are what is tested, held against reckon.
var uniqs = rig.Subject{New: New, Reckon: rig.OfOne(reckon)}

// of makes the parameters of a uniq.
func of(n int) api.Params {
	return api.Params{Kind: api.KindUniq, N: n}
}

// both are all parameters that may be.
func both() []api.Params { return []api.Params{of(0), of(1)} }

// group is lines that are alike, one behind the other.
type group struct {
	line string
	size int
}

// told is what a group comes to.
func (g group) told(n int) string {
	if n == 0 {
		return g.line + "\n"
	}
	return strconv.Itoa(g.size) + " " + g.line + "\n"
}

// groupsOf parts lines where one is unlike the one ahead of it.
func groupsOf(lines []string) []group {
	var groups []group
	for first, i := 0, 1; i <= len(lines); i++ {
		if i == len(lines) || lines[i] != lines[i-1] {
			groups = append(groups, group{lines[first], i - first})
			first = i
		}
	}
	return groups
}

// reckon is the denotation.
func reckon(p api.Params, in rig.Input) rig.Seen {
	lines := strings.Split(in.Text, "\n")
	seen, last := rig.Seen{}, len(lines)-1
	seen.Held = len(lines[last])
	if long := slices.IndexFunc(lines, func(l string) bool { return len(l) > 64 }); long >= 0 {
		seen, last = rig.Seen{Need: api.Ended, Err: api.ErrLong}, long
	} else if in.Ended {
		seen = rig.Seen{Need: api.Ended}
		if lines[last] != "" {
			last++
		}
	}
	groups := groupsOf(lines[:last])
	for i, g := range groups {
		isOpen := i == len(groups)-1 && !(in.Ended && seen.Err == api.OK)
		if p.N == 0 || !isOpen {
			seen.Out += g.told(p.N)
		}
		if isOpen && seen.Err == api.OK {
			seen.Held += len(g.line)
		}
	}
	return seen
}

// times is a line so many times, with its ends.
func times(n int, text string) string { return strings.Repeat(text+"\n", n) }

// inputs are the rig's, and such as matter to a uniq.
func inputs() []string {
	long := rig.Word(64)
	return append(rig.Inputs(),
		"a\na\nb\na\n",
		"a\na",
		"a\na\n",
		"a\nb\na\nb\na\nb",
		times(2, rig.Word(64))+strings.Repeat("\na\n", 40),
		"a\nb\nb\nc\nc\nc\nb\nb\na",
		"\n\na\n\n\n\na\na\n\nb",
		"a\n\n\nb\n\n",
		"a\nab\nabc\nab\na\n\na",
		"ab\na\nab\nab\na\na\nb\nba",
		times(9, "x")+times(10, "y")+times(1, "z")+times(2, "x"),
		times(9, ""),
		times(10, "")+"a",
		times(99, "ab")+times(100, "")+times(101, "c")+"c",
		long+"\n"+long+"\n"+long,
		long+"\n"+long+"\n"+rig.Word(63)+"\n"+rig.Word(63),
		times(2, "a")+long+"\n"+times(2, "a"),
		times(2, "a")+long+"x",
		times(2, "a")+long+"x\n"+times(2, "a"),
		times(2, "a")+times(2, long)+long+"h",
		times(2, "")+strings.Repeat("\x00", 65)+"\n",
		"\x00\n\x00\n\r\n\r\n\r\r\n\xff\n\xff\n\xff\xff\n\x00\n\x00\x00",
		"1\n1\n1 1\n 1\n 1\n2 1\n2 1\n1 2 1\n \n  \n  \n\n2",
		"a \na\n a\nA\na",
		"\xc3\xa9\ne\xcc\x81\n\xc3\n\xc3",
	)
}

// P9.1
func TestNewMakesAMachineOfUniqsAlone(t *testing.T) {
	for _, p := range both() {
		for _, none := range [][]byte{nil, {}} {
			p.A, p.B = none, none
			if m := uniqs.Make(t, p); m.Need() != 0 || m.Held() != 0 {
				t.Errorf("N %d: Need %d, Held %d; want 0, 0", p.N, m.Need(), m.Held())
			}
		}
	}
}

// P9.1
func TestNewRefuses(t *testing.T) {
	var own []rig.Refusal
	for _, n := range []int{2, 3, -1, -2, 10, 256, 1 << 32, 1<<32 + 1, 1000000000, 1<<63 - 1, -1 << 63} {
		own = append(own, rig.Refusal{P: of(n), Err: api.ErrParam})
	}
	for _, p := range append(both(), of(2)) {
		for _, b := range []string{"a", "\n", "\x00", ",", strings.Repeat("b", 5000)} {
			own = append(own,
				rig.Refusal{P: api.Params{Kind: p.Kind, N: p.N, A: []byte(b)}, Err: api.ErrParam},
				rig.Refusal{P: api.Params{Kind: p.Kind, N: p.N, B: []byte(b)}, Err: api.ErrParam},
				rig.Refusal{P: api.Params{Kind: p.Kind, N: p.N, A: []byte(b), B: []byte(b)}, Err: api.ErrParam},
			)
		}
	}
	uniqs.HoldNew(t, api.KindUniq, own...)
}

// P9.2
func TestTheChaptersExample(t *testing.T) {
	for _, input := range []string{"a\na\nb\na\n", "a\na\nb\na"} {
		for size := 1; size <= api.MaxChunk; size++ {
			if seen := uniqs.Run(t, of(1), input, size); seen != (rig.Seen{Out: "2 a\n1 b\n1 a\n", Need: api.Ended}) {
				t.Errorf("%q by %d bytes: %+v; want 2 a, 1 b, 1 a", input, size, seen)
			}
		}
	}
}

// P9.2, at each step; P9.3 and P9.5, too, and P9.4's memory
func TestTheDenotationComesByAllChunks(t *testing.T) {
	for _, input := range inputs() {
		for _, p := range both() {
			uniqs.HoldChunks(t, p, input)
		}
	}
}

// P9.2: the denotation is reckoned rightly
func TestWhatComesOfSomeInputs(t *testing.T) {
	long := rig.Word(64)
	for _, c := range []struct{ input, firsts, counted string }{
		{"", "", ""},
		{"a", "a\n", "1 a\n"},
		{"a\n", "a\n", "1 a\n"},
		{"\n", "\n", "1 \n"},
		{"\n\n\n", "\n", "3 \n"},
		{"a\na", "a\n", "2 a\n"},
		{"a\na\n", "a\n", "2 a\n"},
		{"a\nb", "a\nb\n", "1 a\n1 b\n"},
		{"a\nb\n", "a\nb\n", "1 a\n1 b\n"},
		{"a\n\n", "a\n\n", "1 a\n1 \n"},
		{"\na", "\na\n", "1 \n1 a\n"},
		{"\n\na\n\n", "\na\n\n", "2 \n1 a\n1 \n"},
		{"a\n\n\na\na\n", "a\n\na\n", "1 a\n2 \n2 a\n"},
		{"a\nb\na\nb", "a\nb\na\nb\n", "1 a\n1 b\n1 a\n1 b\n"},
		{"b\nb\na\na\na\nb\n", "b\na\nb\n", "2 b\n3 a\n1 b\n"},
		{"a\nab\nabc\n", "a\nab\nabc\n", "1 a\n1 ab\n1 abc\n"},
		{"abc\nab\na\n\n", "abc\nab\na\n\n", "1 abc\n1 ab\n1 a\n1 \n"},
		{"ab\nab\na", "ab\na\n", "2 ab\n1 a\n"},
		{"a\na\nab", "a\nab\n", "2 a\n1 ab\n"},
		{"ab\nba\n", "ab\nba\n", "1 ab\n1 ba\n"},
		{"a\nA\na \n a\n", "a\nA\na \n a\n", "1 a\n1 A\n1 a \n1  a\n"},
		{"\x00\n\x00\n\x00\x00", "\x00\n\x00\x00\n", "2 \x00\n1 \x00\x00\n"},
		{"\r\n\r\n\n", "\r\n\n", "2 \r\n1 \n"},
		{"a\r\na\n", "a\r\na\n", "1 a\r\n1 a\n"},
		{"\xff\n\xff\n\xfe", "\xff\n\xfe\n", "2 \xff\n1 \xfe\n"},
		{"\xff\n\xef\xbf\xbd\n", "\xff\n\xef\xbf\xbd\n", "1 \xff\n1 \xef\xbf\xbd\n"},
		{"2 a\n2 a\na\na", "2 a\na\n", "2 2 a\n2 a\n"},
		{"1\n11\n11\n1 1\n", "1\n11\n1 1\n", "1 1\n2 11\n1 1 1\n"},
		{"07\n7\n7\n 7", "07\n7\n 7\n", "1 07\n2 7\n1  7\n"},
		{" \n \n  \n", " \n  \n", "2  \n1   \n"},
		{long + "\n" + long, long + "\n", "2 " + long + "\n"},
		{long + "\n" + long[1:] + "\n", long + "\n" + long[1:] + "\n", "1 " + long + "\n1 " + long[1:] + "\n"},
		{"a\n" + long + "\na", "a\n" + long + "\na\n", "1 a\n1 " + long + "\n1 a\n"},
		{times(9, "x") + "y", "x\ny\n", "9 x\n1 y\n"},
		{times(10, "x") + "y", "x\ny\n", "10 x\n1 y\n"},
		{times(99, "x"), "x\n", "99 x\n"},
		{times(100, "x"), "x\n", "100 x\n"},
	} {
		for _, size := range []int{1, 5, 32} {
			for n, out := range []string{c.firsts, c.counted} {
				if seen := uniqs.Run(t, of(n), c.input, size); seen != (rig.Seen{Out: out, Need: api.Ended}) {
					t.Errorf("N %d of %q, by %d bytes: %+v; want %q", n, c.input, size, seen, out)
				}
			}
		}
	}
}

// P9.2: a number has as many digits as it needs
func TestAGroupOfEachSizeIsCounted(t *testing.T) {
	sizes := []int{9999, 10000, 12345, 99999, 100000}
	for size := 1; size <= 1100; size++ {
		sizes = append(sizes, size)
	}
	for _, size := range sizes {
		for _, text := range []string{"", "a", "5"} {
			input := times(size, text)
			for _, behind := range []string{"", "b"} {
				want := strconv.Itoa(size) + " " + text + "\n"
				if behind != "" {
					want += "1 b\n"
				}
				if got := uniqs.Told(t, of(1), input+behind, 32); got != want {
					t.Fatalf("%d times %q, and %q: %q; want %q", size, text, behind, got, want)
				}
			}
		}
	}
}

// P9.2: a last line without its end is one like others
func TestALastLineWithoutItsEndIsTold(t *testing.T) {
	for _, c := range []struct{ input, firsts, counted string }{
		{"x\nx\nx", "x\n", "3 x\n"},
		{"x\nx\ny", "x\ny\n", "2 x\n1 y\n"},
		{"x\nx\nxx", "x\nxx\n", "2 x\n1 xx\n"},
		{"xx\nxx\nx", "xx\nx\n", "2 xx\n1 x\n"},
		{"\n\nx", "\nx\n", "2 \n1 x\n"},
		{"x\n\n", "x\n\n", "1 x\n1 \n"},
	} {
		for n, want := range []string{c.firsts, c.counted} {
			if got := uniqs.Told(t, of(n), c.input, 4); got != want {
				t.Errorf("N %d of %q: %q; want %q", n, c.input, got, want)
			}
		}
	}
}

// step is a chunk, and what is to be seen behind it.
type step struct {
	chunk, out string
	held       int
}

// take hands a machine a chunk by each step, and compares.
func take(t *testing.T, m api.Machine, steps []step) {
	t.Helper()
	for _, s := range steps {
		rig.Take(t, m, s.chunk, s.out, s.held)
	}
}

// P9.2 and P9.3, N 0: the first line of a group is told by the chunk that ends it
func TestAFirstLineIsToldByItsChunk(t *testing.T) {
	m := uniqs.Make(t, of(0))
	take(t, m, []step{
		{"a", "", 1},
		{"\n", "a\n", 1},
		{"a", "", 2},
		{"\n", "", 1},
		{"a\na\nab", "", 3},
		{"\n", "ab\n", 2},
		{"abc", "", 5},
		{"\nab\nab\nab\n\n\n", "abc\nab\n\n", 0},
		{"\n", "", 0},
		{"x\ny\ny\nx\nz", "x\ny\nx\n", 2},
		{"\nz\nz\n", "z\n", 1},
		{rig.Word(32), "", 33},
		{rig.Word(32), "", 65},
		{"\n" + rig.Word(31), rig.Word(32) + rig.Word(32) + "\n", 95},
		{rig.Word(32), "", 127},
		{"!", "", 128},
		{"\n", rig.Word(31) + rig.Word(32) + "!\n", 64},
		{"\n", "\n", 0},
		{"last", "", 4},
	})
	if outs, e := m.End(0); rig.Text(outs) != "last\n" || e != api.OK || m.Held() != 0 {
		t.Errorf("End: %+v, %v, Held %d; want last, Held 0", outs, e, m.Held())
	}
}

// P9.2 and P9.3, N 1: a group is told by the chunk that ends another line
func TestAGroupIsToldByTheLineBehindIt(t *testing.T) {
	m := uniqs.Make(t, of(1))
	take(t, m, []step{
		{"a", "", 1},
		{"\n", "", 1},
		{"a", "", 2},
		{"\n", "", 1},
		{"a\na\nab", "", 3},
		{"\n", "4 a\n", 2},
		{"abc", "", 5},
		{"\nab\nab\nab\n\n\n", "1 ab\n1 abc\n3 ab\n", 0},
		{"\n", "", 0},
		{"x\ny\ny\nx\nz", "3 \n1 x\n2 y\n", 2},
		{"\nz\nz\n", "1 x\n", 1},
		{rig.Word(32), "", 33},
		{rig.Word(32), "", 65},
		{"\n" + rig.Word(31), "3 z\n", 95},
		{rig.Word(32), "", 127},
		{"!", "", 128},
		{"\n", "1 " + rig.Word(32) + rig.Word(32) + "\n", 64},
		{"\n", "1 " + rig.Word(31) + rig.Word(32) + "!\n", 0},
		{"last", "", 4},
	})
	if outs, e := m.End(0); rig.Text(outs) != "1 \n1 last\n" || e != api.OK || m.Held() != 0 {
		t.Errorf("End: %+v, %v, Held %d; want 1 of no byte, 1 last, Held 0", outs, e, m.Held())
	}
}

// P9.2: an input that has not ended is read on; that it fails is no call of the machine
func TestAnInputThatDoesNotEndIsReadOn(t *testing.T) {
	d := uniqs.Drive(t, of(1))
	for range 200 {
		d.Feed("ab\nab\na")
		d.Feed("b\n")
	}
	if d.Seen != (rig.Seen{Held: 2}) {
		t.Errorf("%+v; want a group that is not told yet", d.Seen)
	}
	d.End()
	if d.Seen != (rig.Seen{Out: "600 ab\n", Need: api.Ended}) {
		t.Errorf("behind the end: %+v", d.Seen)
	}
	d = uniqs.Drive(t, of(0))
	for range 200 {
		d.Feed("ab\nab\na\n")
	}
	if d.Seen != (rig.Seen{Out: strings.Repeat("ab\na\n", 200), Held: 1}) {
		t.Errorf("%+v; want one that reads on", d.Seen)
	}
}

// P9.2: what was told ahead of a line that is too long, and neither the group ahead of
// it, nor what stands behind
func TestTheLongLineFails(t *testing.T) {
	for _, ahead := range []struct{ input, firsts, counted string }{
		{"", "", ""},
		{"\n", "\n", ""},
		{"a\na\n", "a\n", ""},
		{"b\nb\na\n", "b\na\n", "2 b\n"},
		{rig.Word(64) + "\n", rig.Word(64) + "\n", ""},
	} {
		for _, long := range []string{rig.Word(65), strings.Repeat("a", 65), rig.Word(200)} {
			for _, behind := range []string{"", "\n", "\na\nb\nb\n"} {
				input := ahead.input + long + behind
				for n, want := range []string{ahead.firsts, ahead.counted} {
					for _, size := range []int{1, 7, 32} {
						seen := uniqs.Run(t, of(n), input, size)
						if seen.Out != want || seen.Need != api.Ended || seen.Err != api.ErrLong {
							t.Errorf("N %d of %q by %d bytes: %+v; want %q, ErrLong", n, input, size, seen, want)
						}
					}
				}
			}
		}
	}
}

// P9.2 and P9.4
func TestTheLongLineFailsByItsByte(t *testing.T) {
	for n, out := range []string{"b\na\n", "1 b\n"} {
		for _, last := range []string{"!", "!\na\nb\n"} {
			d := uniqs.Drive(t, of(n))
			d.Feed("b\na\na\n" + rig.Word(26))
			d.Feed(rig.Word(32))
			d.Feed("uvwxyz")
			if d.Seen != (rig.Seen{Out: out, Held: 65}) {
				t.Fatalf("N %d, 64 bytes: %+v", n, d.Seen)
			}
			d.Feed(last)
			if d.Seen.Out != out || d.Seen.Need != api.Ended || d.Seen.Err != api.ErrLong {
				t.Errorf("N %d, one more: %+v; want ErrLong", n, d.Seen)
			}
			d.Pester()
		}
	}
}

// P9.3: the line that is begun and the group's line, each at its longest, count both
func TestHeldComesUpToTheBound(t *testing.T) {
	for _, p := range both() {
		for _, same := range []bool{true, false} {
			d := uniqs.Drive(t, p)
			first, second := strings.Repeat("x", 64), strings.Repeat("y", 64)
			if same {
				second = first
			}
			for _, chunk := range []string{first[:32], first[32:], "\n", second[:32], second[32:]} {
				d.Feed(chunk)
			}
			if d.Seen.Held != 128 {
				t.Errorf("N %d, the same: %v: Held %d; want 128", p.N, same, d.Seen.Held)
			}
			if d.Feed("\n"); d.Seen.Held != 64 {
				t.Errorf("N %d, the same: %v: Held %d behind its end; want 64", p.N, same, d.Seen.Held)
			}
		}
	}
}

// P9.4
func TestChunksOfMaxChunkBytesAreTakenAndNoGreaterOnes(t *testing.T) {
	uniqs.HoldChunkLimits(t, both()...)
}

// P9.4: ahead of each step, behind the end, and behind a line that is too long
func TestRefusalsChangeNothing(t *testing.T) {
	for _, input := range inputs() {
		for _, p := range both() {
			uniqs.HoldRefusals(t, p, input)
		}
	}
}

// P9.4
func TestMachinesShareNothing(t *testing.T) {
	one, other := uniqs.Drive(t, of(1)), uniqs.Drive(t, of(1))
	for _, chunk := range []string{"a\na\n", "a\nb", "\nb\n", "c"} {
		one.Feed(chunk)
		other.Feed(strings.ToUpper(chunk))
		other.Feed("\n")
	}
	one.End()
	other.End()
	if one.Seen.Out != "3 a\n2 b\n1 c\n" || other.Seen.Out != "2 A\n1 \n1 A\n1 B\n1 \n1 B\n1 \n1 C\n" {
		t.Errorf("%q, %q", one.Seen.Out, other.Seen.Out)
	}
}

// P9.4: answers that are kept stay as they are, whatever comes behind them
func TestAnswersAreNewMemory(t *testing.T) {
	for _, size := range []int{1, 2, 3, 5, 32} {
		for _, p := range both() {
			uniqs.HoldAnswers(t, p, rig.Letters(), size)
			uniqs.HoldAnswers(t, p, strings.Repeat(times(2, "xyz")+times(3, "ab")+"\n\n", 9), size)
		}
	}
}

// P9.6
func TestMoreOfAnInputGoesOnFromWhatCame(t *testing.T) {
	for _, input := range inputs() {
		for _, p := range both() {
			uniqs.HoldGrowth(t, p, input)
		}
	}
}

// P9.7: without the denotation, and without what drives by it
func TestWhatComesAsOftenAsItWasCountedIsTheInput(t *testing.T) {
	for _, input := range inputs() {
		if rig.HasTooLong(input) {
			continue
		}
		for _, size := range []int{1, 3, 32} {
			holdCounted(t, input, uniqs.Told(t, of(0), input, size), uniqs.Told(t, of(1), input, size))
		}
	}
}

// P9.7: of all inputs of a few bytes
func TestWhatComesOfSmallInputsAsOftenAsItWasCountedIsTheInput(t *testing.T) {
	for _, input := range rig.SmallInputs(7) {
		holdCounted(t, input, uniqs.Told(t, of(0), input, 2), uniqs.Told(t, of(1), input, 32))
	}
}

// holdCounted holds what came of an input, with and without numbers, against that.
func holdCounted(t *testing.T, input, firsts, counted string) {
	t.Helper()
	before, without, whole := "", "", ""
	for i, told := range strings.SplitAfter(counted, "\n") {
		if told == "" {
			continue
		}
		digits, text, _ := strings.Cut(told, " ")
		count, err := strconv.Atoi(digits)
		if err != nil || count < 1 || strconv.Itoa(count) != digits || !strings.HasSuffix(told, "\n") {
			t.Fatalf("%q comes to %q; want a number, a blank, and a line", input, told)
		}
		if i > 0 && text == before {
			t.Errorf("%q: %q comes twice", input, text)
		}
		before = text
		without += text
		whole += strings.Repeat(text, count)
	}
	if whole != rig.LastEnded(input) || without != firsts {
		t.Errorf("%q comes to %q, and by N 0 to %q", input, counted, firsts)
	}
}

// P9.2 to P9.7, of any bytes
func FuzzUniq(f *testing.F) {
	f.Add(true, []byte("a\na\nb\na"), []byte{1, 2, 3})
	f.Add(false, []byte("\n\na\na\n\n"), []byte{})
	f.Add(true, []byte(times(11, "ab")+times(2, "a")), []byte{31, 0})
	f.Add(true, []byte(times(2, rig.Word(64))+rig.Word(65)+"\n"), []byte{7})
	f.Fuzz(func(t *testing.T, counts bool, input, cuts []byte) {
		if len(input) > 4096 {
			return
		}
		p, text := of(0), string(input)
		if counts {
			p = of(1)
		}
		if seen := uniqs.Run(t, p, text, rig.Sizes(cuts)...); seen.Err == api.OK {
			holdCounted(t, text, uniqs.Told(t, of(0), text, 32), uniqs.Told(t, of(1), text, 1))
		}
	})
}
