package count

import (
	"bytes"
	"strconv"
	"strings"
	"testing"

	"penstock/api"
	"penstock/rig"
)

// counts are what is tested, held against reckon.
var counts = rig.Subject{New: New, Reckon: rig.OfOne(reckon)}

// ofCount are the parameters of a count.
var ofCount = api.Params{Kind: api.KindCount}

// reckon is the denotation: nothing is held, and nothing is told ahead of the end.
func reckon(_ api.Params, in rig.Input) rig.Seen {
	if !in.Ended {
		return rig.Seen{}
	}
	return rig.Seen{Out: counted(in.Text), Need: api.Ended}
}

// counted is the line that a text comes to.
func counted(text string) string {
	return told(len(strings.Split(text, "\n"))-1, len(text))
}

// told is a line of two numbers.
func told(lines, all int) string {
	return strconv.Itoa(lines) + " " + strconv.Itoa(all) + "\n"
}

// inputs are the rig's, and such as matter to a count.
func inputs() []string {
	return append(rig.Inputs(),
		"\n\n",
		"\x00", "\r", "\xff", "\x0b", "1", "0", " ",
		"\x00\n\x00\x00\n\n", "\r\n\r\n\r", "\xff\n\xff\xff\n\xff", "\xc3\xa9\n\xe2\x82\xac\ne",
		"1 4\n", "1 4", "10\n 10\n0 0\n", " \n \n", "\\n\n",
		rig.Word(64)+"\n"+rig.Word(65)+"\n"+rig.Word(66),
		rig.Word(300)+"\n"+rig.Word(200),
		rig.Word(31)+"\n"+rig.Word(32)+"\n"+"\n"+rig.Word(31)+"\n\n",
		strings.Repeat("\n", 32), strings.Repeat("\n", 33), strings.Repeat("\n", 64),
		strings.Repeat("a", 32), strings.Repeat("a", 33),
		strings.Repeat("\na", 50), strings.Repeat("a\n", 50),
		strings.Repeat("ab\n", 100),
		rig.Letters(),
	)
}

// P10.1
func TestNewMakesAMachineOfCountsAlone(t *testing.T) {
	for _, a := range [][]byte{nil, {}} {
		for _, b := range [][]byte{nil, {}} {
			p := api.Params{Kind: api.KindCount, A: a, B: b}
			if m := counts.Make(t, p); m.Need() != 0 || m.Held() != 0 {
				t.Errorf("%+v: Need %d, Held %d; want 0, 0", p, m.Need(), m.Held())
			}
		}
	}
}

// P10.1
func TestNewRefuses(t *testing.T) {
	var own []rig.Refusal
	refuse := func(p api.Params) {
		p.Kind = api.KindCount
		own = append(own, rig.Refusal{P: p, Err: api.ErrParam})
	}
	for _, n := range []int{1, 2, -1, -2, 10, 256, 1 << 32, 1000000000, 1<<63 - 1, -1 << 63} {
		refuse(api.Params{N: n})
	}
	for _, n := range []int{0, 1, -1} {
		for _, text := range []string{"a", "\n", "\x00", " ", ",", strings.Repeat("b", 5000)} {
			refuse(api.Params{N: n, A: []byte(text)})
			refuse(api.Params{N: n, B: []byte(text)})
			refuse(api.Params{N: n, A: []byte(text), B: []byte(text)})
		}
	}
	counts.HoldNew(t, api.KindCount, own...)
}

// P10.2
func TestTheChaptersExample(t *testing.T) {
	for size := 1; size <= api.MaxChunk; size++ {
		if seen := counts.Run(t, ofCount, "a\nbc", size); seen != (rig.Seen{Out: "1 4\n", Need: api.Ended}) {
			t.Errorf("by %d bytes: %+v; want 1 4", size, seen)
		}
	}
}

// Example 6 of the whole
func TestTheWholesExample(t *testing.T) {
	if seen := counts.Run(t, ofCount, "a\nb", 1); seen != (rig.Seen{Out: "1 3\n", Need: api.Ended}) {
		t.Errorf("%+v; want 1 3", seen)
	}
}

// P10.2, at each step; P10.3 and P10.5, too, and P10.4's memory
func TestTheDenotationComesByAllChunks(t *testing.T) {
	for _, input := range inputs() {
		counts.HoldChunks(t, ofCount, input)
	}
}

// P10.2: the denotation is reckoned rightly
func TestWhatComesOfSomeInputs(t *testing.T) {
	for _, c := range []struct{ input, out string }{
		{"", "0 0\n"},
		{"a", "0 1\n"},
		{"\n", "1 1\n"},
		{"\x00", "0 1\n"},
		{"\r", "0 1\n"},
		{"\xff", "0 1\n"},
		{"1", "0 1\n"},
		{" ", "0 1\n"},
		{"a\n", "1 2\n"},
		{"\na", "1 2\n"},
		{"\n\n", "2 2\n"},
		{"\n\n\n", "3 3\n"},
		{"ab", "0 2\n"},
		{"a\nb", "1 3\n"},
		{"a\nb\n", "2 4\n"},
		{"a\n\nb\n", "3 5\n"},
		{"a\n\nb\nc", "3 6\n"},
		{"\r\n\r\n", "2 4\n"},
		{"\x00\n\xff\n\r", "2 5\n"},
		{"\xc3\xa9\n", "1 3\n"},
		{"\xe2\x82\xac", "0 3\n"},
		{"\\n", "0 2\n"},
		{"10 10 10", "0 8\n"},
		{"1 4\n", "1 4\n"},
		{" 7\n0\n", "2 5\n"},
		{rig.Word(64), "0 64\n"},
		{rig.Word(64) + "\n", "1 65\n"},
		{rig.Word(65), "0 65\n"},
		{rig.Word(65) + "\n", "1 66\n"},
		{rig.Word(65) + "\na\n" + rig.Word(200), "2 268\n"},
		{rig.Word(4000) + "\n", "1 4001\n"},
		{strings.Repeat("xy\n", 333), "333 999\n"},
		{strings.Repeat("xy\n", 333) + "z", "333 1000\n"},
	} {
		for _, size := range []int{1, 5, 32} {
			if seen := counts.Run(t, ofCount, c.input, size); seen != (rig.Seen{Out: c.out, Need: api.Ended}) {
				t.Errorf("%q, by %d bytes: %+v; want %q", c.input, size, seen, c.out)
			}
		}
	}
}

// P10.2: of all 256 bytes one alone is an end of a line
func TestEachByteIsCounted(t *testing.T) {
	all := ""
	for c := range 256 {
		text, want := string([]byte{byte(c)}), "0 1\n"
		if c == 10 {
			want = "1 1\n"
		}
		if got := counts.Told(t, ofCount, text, 1); got != want {
			t.Errorf("byte %d: %q; want %q", c, got, want)
		}
		all += text
	}
	for _, size := range []int{1, 7, 32} {
		if got := counts.Told(t, ofCount, all+all, size); got != "2 512\n" {
			t.Errorf("all bytes, twice, by %d: %q", size, got)
		}
	}
}

// P10.2: a number has as many digits as it needs, each of the two by itself
func TestNumbersOfEachSizeAreTold(t *testing.T) {
	sizes := []int{9999, 10000, 12345, 65535, 65536, 99999, 100000, 1000000}
	for size := range 1100 {
		sizes = append(sizes, size)
	}
	for _, size := range sizes {
		for _, c := range []struct{ input, out string }{
			{strings.Repeat("\n", size), told(size, size)},
			{strings.Repeat("a", size), told(0, size)},
			{strings.Repeat("5\n", size), told(size, 2*size)},
			{strings.Repeat("a", size) + "\n", told(1, size+1)},
			{strings.Repeat("\n", size) + "a", told(size, size+1)},
		} {
			if got := counts.Told(t, ofCount, c.input, 32); got != c.out {
				t.Fatalf("%d times, of %d bytes: %q; want %q", size, len(c.input), got, c.out)
			}
		}
	}
}

// P10.2: these numbers, letter by letter
func TestNumbersWithOneDigitMore(t *testing.T) {
	for _, c := range []struct {
		lines, others int
		out           string
	}{
		{9, 0, "9 9\n"}, {10, 0, "10 10\n"}, {9, 1, "9 10\n"}, {1, 8, "1 9\n"}, {1, 9, "1 10\n"},
		{99, 0, "99 99\n"}, {100, 0, "100 100\n"}, {99, 1, "99 100\n"}, {9, 90, "9 99\n"}, {10, 90, "10 100\n"},
		{999, 0, "999 999\n"}, {1000, 0, "1000 1000\n"}, {999, 1, "999 1000\n"}, {99, 900, "99 999\n"}, {100, 900, "100 1000\n"},
		{0, 9, "0 9\n"}, {0, 10, "0 10\n"}, {0, 99, "0 99\n"}, {0, 100, "0 100\n"}, {0, 999, "0 999\n"}, {0, 1000, "0 1000\n"},
	} {
		ends, others := strings.Repeat("\n", c.lines), strings.Repeat("9", c.others)
		for _, input := range []string{ends + others, others + ends} {
			for _, size := range []int{1, 3, 32} {
				if got := counts.Told(t, ofCount, input, size); got != c.out {
					t.Errorf("%d ends of lines and %d bytes, by %d: %q; want %q", c.lines, c.others, size, got, c.out)
				}
			}
		}
	}
}

// P10.2: wherever in its chunk an end of a line stands, it is one
func TestEndsOfLinesStandAnywhereInAChunk(t *testing.T) {
	for size := 1; size <= api.MaxChunk; size++ {
		for first := range size {
			for last := first; last < size; last++ {
				chunk, ends := bytes.Repeat([]byte("x"), size), 1
				if chunk[first], chunk[last] = '\n', '\n'; first != last {
					ends = 2
				}
				if got := counts.Told(t, ofCount, strings.Repeat(string(chunk), 3), size); got != told(3*ends, 3*size) {
					t.Fatalf("three times %q: %q", chunk, got)
				}
			}
		}
	}
}

// P10.2: nothing is told by chunks, the line by the end
func TestTheLineIsToldByTheEndAlone(t *testing.T) {
	m := counts.Make(t, ofCount)
	for _, chunk := range []string{"a", "\n", "\n\n", "b\nc", rig.Word(32), strings.Repeat("\n", 32), "\nx\n", "1 4\n"} {
		outs, e := m.Feed(0, []byte(chunk))
		if len(outs) != 0 || e != api.OK || m.Need() != 0 || m.Held() != 0 {
			t.Errorf("%q: %+v, %v, Need %d, Held %d; want nothing", chunk, outs, e, m.Need(), m.Held())
		}
	}
	outs, e := m.End(0)
	if len(outs) != 1 || outs[0].Port != 0 || string(outs[0].Bytes) != "39 78\n" || e != api.OK {
		t.Errorf("the end: %+v, %v; want 39 78 to port 0", outs, e)
	}
	if m.Need() != api.Ended || m.Held() != 0 {
		t.Errorf("behind the line: Need %d, Held %d; want Ended, 0", m.Need(), m.Held())
	}
}

// P10.2: an input of no byte comes to a line, too
func TestAnInputOfNoByteIsCounted(t *testing.T) {
	m := counts.Make(t, ofCount)
	outs, e := m.End(0)
	if rig.Text(outs) != "0 0\n" || e != api.OK || m.Need() != api.Ended || m.Held() != 0 {
		t.Errorf("%+v, %v, Need %d, Held %d; want 0 0", outs, e, m.Need(), m.Held())
	}
}

// P10.2: an input that has not ended is read on; that it fails is no call of the machine
func TestAnInputThatDoesNotEndIsReadOn(t *testing.T) {
	d := counts.Drive(t, ofCount)
	for range 300 {
		d.Feed("abc\nd")
		d.Feed("\n\n" + rig.Word(30))
	}
	if d.Seen != (rig.Seen{}) {
		t.Errorf("%+v; want nothing told", d.Seen)
	}
	d.End()
	if d.Seen != (rig.Seen{Out: "900 11100\n", Need: api.Ended}) {
		t.Errorf("behind the end: %+v; want 900 11100", d.Seen)
	}
}

// P10.2: it knows no lines that are too long
func TestNoLineIsTooLong(t *testing.T) {
	for _, n := range []int{63, 64, 65, 66, 128, 1000, 4096, 20000} {
		for _, c := range []struct{ input, out string }{
			{rig.Word(n), told(0, n)},
			{rig.Word(n) + "\n", told(1, n+1)},
			{"a\n" + rig.Word(n) + "\nb\n", told(3, n+5)},
		} {
			if got := counts.Told(t, ofCount, c.input, 32); got != c.out {
				t.Errorf("a line of %d bytes: %q; want %q", n, got, c.out)
			}
		}
	}
}

// P10.3
func TestNothingIsHeld(t *testing.T) {
	for _, input := range inputs() {
		m := counts.Make(t, ofCount)
		for i := range len(input) {
			if _, e := m.Feed(0, []byte(input[i:i+1])); e != api.OK || m.Held() != 0 {
				t.Fatalf("behind %q: %v, Held %d; want 0", input[:i+1], e, m.Held())
			}
		}
		if m.End(0); m.Held() != 0 {
			t.Errorf("%q: Held %d behind the end", input, m.Held())
		}
	}
}

// P10.4
func TestChunksOfMaxChunkBytesAreTakenAndNoGreaterOnes(t *testing.T) {
	counts.HoldChunkLimits(t, ofCount)
}

// P10.4: ahead of each step, and behind the end: the counts are the same
func TestRefusalsChangeNothing(t *testing.T) {
	for _, input := range inputs() {
		counts.HoldRefusals(t, ofCount, input)
	}
}

// P10.4: one by one, each with the counts behind it
func TestWhatIsRefusedIsNotCounted(t *testing.T) {
	for _, call := range rig.UndueCalls() {
		for _, ahead := range []string{"", "a\nb\n"} {
			m := counts.Make(t, ofCount)
			if ahead != "" {
				m.Feed(0, []byte(ahead))
			}
			rig.HoldUndue(t, m, call)
			m.Feed(0, []byte("c\n"))
			if outs, _ := m.End(0); rig.Text(outs) != counted(ahead+"c\n") {
				t.Errorf("%s, behind %q: %q in the end", call.Name, ahead, rig.Text(outs))
			}
			rig.HoldDone(t, m, call)
		}
	}
}

// P10.4: the line is told once
func TestBehindTheEndNothingIsTold(t *testing.T) {
	m := counts.Make(t, ofCount)
	m.Feed(0, []byte("a\n"))
	m.End(0)
	for range 3 {
		if outs, e := m.End(0); outs != nil || e != api.ErrDone {
			t.Errorf("End again: %+v, %v; want ErrDone", outs, e)
		}
		if outs, e := m.Feed(0, []byte("a\n")); outs != nil || e != api.ErrDone {
			t.Errorf("Feed behind the end: %+v, %v; want ErrDone", outs, e)
		}
		if outs, e := m.More(); outs != nil || e != api.ErrDone {
			t.Errorf("More behind the end: %+v, %v; want ErrDone", outs, e)
		}
	}
}

// P10.4
func TestMachinesShareNothing(t *testing.T) {
	one, other := counts.Drive(t, ofCount), counts.Drive(t, ofCount)
	for _, chunk := range []string{"a", "b\nc", "\nd", "aab\ne"} {
		one.Feed(chunk)
		other.Feed(chunk + "\n")
	}
	one.End()
	other.Feed("\n")
	other.End()
	if one.Seen.Out != "3 11\n" || other.Seen.Out != "8 16\n" {
		t.Errorf("%q, %q; want 3 11, 8 16", one.Seen.Out, other.Seen.Out)
	}
}

// P10.4: what is written over a chunk behind Feed plays no part
func TestChunksAreNeitherKeptNorChanged(t *testing.T) {
	m := counts.Make(t, ofCount)
	chunk := []byte("a\nb\n")
	for _, text := range []string{"a\nb\n", "\n\n\n\n", "abcd"} {
		copy(chunk, text)
		if m.Feed(0, chunk); string(chunk) != text {
			t.Errorf("%q is %q behind Feed", text, chunk)
		}
		copy(chunk, "\n\nx\n")
	}
	if outs, _ := m.End(0); rig.Text(outs) != "6 12\n" {
		t.Errorf("%q; want 6 12", rig.Text(outs))
	}
}

// P10.4: answers that are kept stay as they are, whatever comes behind them, of other
// machines, too
func TestAnswersAreNewMemory(t *testing.T) {
	for _, size := range []int{1, 2, 3, 5, 32} {
		counts.HoldAnswers(t, ofCount, rig.Letters(), size)
	}
	var kept [][]api.Out
	for n := range 20 {
		m := counts.Make(t, ofCount)
		for range n {
			m.Feed(0, []byte("a\n"))
		}
		outs, _ := m.End(0)
		kept = append(kept, outs)
	}
	for n, outs := range kept {
		if got := rig.Text(outs); got != told(n, 2*n) {
			t.Errorf("answer %d is %q now", n, got)
		}
		for i := range outs[0].Bytes {
			outs[0].Bytes[i] = '!'
		}
	}
}

// P10.6
func TestMoreOfAnInputGoesOnFromWhatCame(t *testing.T) {
	for _, input := range inputs() {
		counts.HoldGrowth(t, ofCount, input)
	}
}

// P10.7: without the denotation, and without what drives by it. By these sums, and what
// each byte by itself comes to, all counts are as they are to be.
func TestCountsOfPartsAreSums(t *testing.T) {
	parts := append(inputs(), rig.Word(1000), strings.Repeat("9\n", 999), strings.Repeat("\n", 9))
	for _, first := range parts {
		for _, second := range parts {
			holdSums(t, first, second)
		}
	}
}

// P10.7: of all inputs of a few bytes, wherever they are parted
func TestCountsOfPartsOfSmallInputsAreSums(t *testing.T) {
	for _, input := range rig.SmallInputs(6) {
		for at := range len(input) + 1 {
			holdSums(t, input[:at], input[at:])
		}
	}
}

// holdSums holds what comes of two inputs, one behind the other, against what comes of
// each.
func holdSums(t *testing.T, first, second string) {
	t.Helper()
	lines, all := numbers(t, first+second, 32)
	ofFirst, allOfFirst := numbers(t, first, 7)
	ofSecond, allOfSecond := numbers(t, second, 1)
	if lines != ofFirst+ofSecond || all != allOfFirst+allOfSecond {
		t.Errorf("%q and %q: %d lines, %d bytes; by themselves %d and %d lines, %d and %d bytes",
			first, second, lines, all, ofFirst, ofSecond, allOfFirst, allOfSecond)
	}
}

// numbers are the two that are told of an input.
func numbers(t *testing.T, input string, size int) (lines, all int) {
	t.Helper()
	got := counts.Told(t, ofCount, input, size)
	first, second, _ := strings.Cut(strings.TrimSuffix(got, "\n"), " ")
	lines, _ = strconv.Atoi(first)
	all, _ = strconv.Atoi(second)
	if got != told(lines, all) || lines < 0 || lines > all {
		t.Fatalf("%q comes to %q; want a number, a blank, a number that is no lesser, and an end", input, got)
	}
	return lines, all
}

// P10.2 to P10.7, of any bytes
func FuzzCount(f *testing.F) {
	f.Add([]byte("a\nbc"), []byte{1, 2, 3}, uint16(2))
	f.Add([]byte(""), []byte{}, uint16(0))
	f.Add([]byte(strings.Repeat("\n", 100)), []byte{31, 0}, uint16(99))
	f.Add([]byte(rig.Word(200)+"\x00\r\n\xff 10"), []byte{7}, uint16(201))
	f.Fuzz(func(t *testing.T, input, cuts []byte, at uint16) {
		if len(input) > 4096 {
			return
		}
		text := string(input)
		counts.Run(t, ofCount, text, rig.Sizes(cuts)...)
		parted := int(at) % (len(text) + 1)
		holdSums(t, text[:parted], text[parted:])
	})
}
