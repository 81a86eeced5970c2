package match

import (
	"slices"
	"strings"
	"testing"

	"penstock/api"
	"penstock/rig"
)

// matches are what is tested, held against reckon.
var matches = rig.Subject{New: New, Reckon: rig.OfOne(reckon)}

// having and lacking are the Ns of a match: which lines it takes.
const (
	having  = 0
	lacking = 1
)

// sixteen is a text as long as one may be.
const sixteen = "0123456789abcdef"

// of makes the parameters of a match.
func of(n int, text string) api.Params {
	return api.Params{Kind: api.KindMatch, N: n, A: []byte(text)}
}

// both are the parameters of a match that takes the lines with each of these texts, and
// of one that takes those without.
func both(texts ...string) []api.Params {
	var all []api.Params
	for _, text := range texts {
		all = append(all, of(having, text), of(lacking, text))
	}
	return all
}

// reckon is the denotation.
func reckon(p api.Params, in rig.Input) rig.Seen {
	return rig.EachLine(in, func(line string) string {
		if standsIn(line, string(p.A)) == (p.N == having) {
			return line + "\n"
		}
		return ""
	})
}

// standsIn tells whether a text stands in a line, by a look at each place.
func standsIn(line, text string) bool {
	for at := range len(line) - len(text) + 1 {
		if line[at:at+len(text)] == text {
			return true
		}
	}
	return false
}

// texts are tried with all inputs.
func texts() []string {
	return []string{"a", "b", "\r", "\x00", "\xff", "bc", "aa", "aab", "abab", "gabcdefga", sixteen}
}

// inputs are the rig's, and such as have the texts in them, or nearly.
func inputs() []string {
	return append(rig.Inputs(),
		"b\nxb\nbx\nxbx\nbxb\nbb\nx\n\nB\nc",
		"aa\naaa\naaaa\naxa\na\na\naA\nAa",
		"aab\naaab\naaaab\naabaab\naaxb\naba\nab\naa\nb\nbaa",
		"ababab\nabaab\nababbab\nabababab\naba\nb\nxabab\nababx",
		"\xff\n\x7f\n\xfe\xff\n\xc3\xbf\n\x00\x00\nx\x00\n\r\r\nx",
		sixteen+"\nx"+sixteen+"\n"+sixteen+"x\n"+sixteen+sixteen+"\n"+sixteen[:15]+"\n"+sixteen[1:]+"\n"+sixteen[:8]+"\n"+sixteen[8:],
		sixteen[:15]+sixteen+"\n0"+sixteen+"\n"+sixteen[:15]+"x"+sixteen[:15]+"\n"+rig.Word(48)+sixteen+"\n"+rig.Word(49)+sixteen[:15],
		"aab\n"+rig.Word(65)+"\naab\n",
		rig.Word(65)+"\naab\nx\n",
		"x\naab\n"+rig.Word(64)+"\n"+rig.Word(65),
		rig.Word(62)+"aa\n"+rig.Word(63)+"aa\n",
	)
}

// P6.1
func TestNewMakesAMachineOfMatchesAlone(t *testing.T) {
	for _, p := range both(append(texts(), "\t", "\x0b", strings.Repeat("\xff", 16))...) {
		if m := matches.Make(t, p); m.Need() != 0 || m.Held() != 0 {
			t.Errorf("%+v: Need %d, Held %d; want 0, 0", p, m.Need(), m.Held())
		}
	}
	matches.Make(t, api.Params{Kind: api.KindMatch, A: []byte("a"), B: []byte{}})
}

// P6.1
func TestNewRefuses(t *testing.T) {
	own := []rig.Refusal{
		{P: api.Params{Kind: api.KindMatch, A: []byte("a"), B: []byte("b")}, Err: api.ErrParam},
		{P: api.Params{Kind: api.KindMatch, A: nil}, Err: api.ErrParam},
	}
	for _, n := range []int{-1, 2, 1000000000, 1<<63 - 1, -1 << 63} {
		own = append(own, rig.Refusal{P: of(n, "a"), Err: api.ErrParam})
	}
	for _, n := range []int{having, lacking} {
		for _, text := range []string{"", sixteen + "g", strings.Repeat("x", 5000), "\n", "\nab", "a\nb", "ab\n", sixteen[:15] + "\n"} {
			own = append(own, rig.Refusal{P: of(n, text), Err: api.ErrParam})
		}
	}
	matches.HoldNew(t, api.KindMatch, own...)
}

// P6.2
func TestTheChaptersExample(t *testing.T) {
	for _, input := range []string{"abc\nxyz\nb\n", "abc\nxyz\nb"} {
		for size := 1; size <= len(input); size++ {
			d := matches.Drive(t, of(having, "b"))
			d.Run(input, size)
			if d.Seen != (rig.Seen{Out: "abc\nb\n", Need: api.Ended}) {
				t.Errorf("%q by %d bytes: %+v; want abc, b", input, size, d.Seen)
			}
		}
	}
}

// P6.2, at each step; P6.3 and P6.5, too, and P6.4's memory
func TestTheDenotationComesByAllChunks(t *testing.T) {
	for _, input := range inputs() {
		for _, p := range both(texts()...) {
			matches.HoldChunks(t, p, input)
		}
	}
}

// P6.2: the denotation is reckoned rightly
func TestWhatComesOfSomeInputs(t *testing.T) {
	long := rig.Word(64)
	for _, c := range []struct {
		text, input   string
		with, without string
		err           api.Errno
	}{
		{"a", "", "", "", api.OK},
		{"a", "\n", "", "\n", api.OK},
		{"a", "\n\n", "", "\n\n", api.OK},
		{"a", "a", "a\n", "", api.OK},
		{"a", "a\n", "a\n", "", api.OK},
		{"a", "A", "", "A\n", api.OK},
		{"b", "x\nb\ny\nbb\nz", "b\nbb\n", "x\ny\nz\n", api.OK},
		{"bc", "bcx\nxbcx\nxbc\nbcbc\nbxc\ncb", "bcx\nxbcx\nxbc\nbcbc\n", "bxc\ncb\n", api.OK},
		{"aa", "a\naa\naaa\naaaa\n", "aa\naaa\naaaa\n", "a\n", api.OK},
		{"aa", "a\na\nxa\nax\n", "", "a\na\nxa\nax\n", api.OK},
		{"ab", "a\nb\nxa\nbx\n", "", "a\nb\nxa\nbx\n", api.OK},
		{"aab", "aaab\nabaab\nab\n", "aaab\nabaab\n", "ab\n", api.OK},
		{"abac", "ababac\nabab\n", "ababac\n", "abab\n", api.OK},
		{sixteen, sixteen + "\n" + sixteen[:15] + "\n" + sixteen[1:] + "\n", sixteen + "\n", sixteen[:15] + "\n" + sixteen[1:] + "\n", api.OK},
		{sixteen, sixteen[:8] + "\n" + sixteen[8:] + "\n", "", sixteen[:8] + "\n" + sixteen[8:] + "\n", api.OK},
		{"abcdefga", long + "\n" + "x", long + "\n", "x\n", api.OK},
		{"za", rig.Word(62) + "za\n" + rig.Word(63) + "z\n", rig.Word(62) + "za\n", rig.Word(63) + "z\n", api.OK},
		{"za", rig.Word(62) + "za", rig.Word(62) + "za\n", "", api.OK},
		{"a", long + "h", "", "", api.ErrLong},
		{"a", long + "h\na\nb\n", "", "", api.ErrLong},
		{"a", "a\nb\n" + long + "h", "a\n", "b\n", api.ErrLong},
		{"a", "a\nb\n" + long + "h\na\nb\n", "a\n", "b\n", api.ErrLong},
	} {
		for n, out := range []string{c.with, c.without} {
			want := rig.Seen{Out: out, Need: api.Ended, Err: c.err}
			for _, size := range []int{1, 5, 32} {
				seen := matches.Run(t, of(n, c.text), c.input, size)
				if seen.Held = 0; seen != want {
					t.Errorf("N %d, A %q of %q, by %d bytes: %+v; want %+v", n, c.text, c.input, size, seen, want)
				}
			}
		}
	}
}

// P6.2: what stands in a line is found wherever it is cut, at each place of it
func TestTheTextIsFoundAtEachPlaceByAllCuts(t *testing.T) {
	for _, text := range []string{"X", "XY", sixteen} {
		for at := range 64 - len(text) + 1 {
			line := strings.Repeat("x", at) + text + strings.Repeat("y", 64-at-len(text))
			for cut := 1; cut <= 32; cut++ {
				with, without := matches.Run(t, of(having, text), line, cut), matches.Run(t, of(lacking, text), line, cut)
				if with.Out != line+"\n" || without.Out != "" {
					t.Fatalf("%q in %q, by %d bytes: %q; %q without it", text, line, cut, with.Out, without.Out)
				}
			}
		}
	}
}

// P6.2: such as have all of the text but one byte, at each of its places
func TestALineThatHasAllButOneByteHasNotTheText(t *testing.T) {
	for at := range len(sixteen) {
		for _, line := range []string{
			sixteen[:at] + sixteen[at+1:],
			sixteen[:at] + "-" + sixteen[at+1:],
			sixteen[:at] + "-" + sixteen[at:],
		} {
			stands := at == 0 && len(line) > len(sixteen)
			with := matches.Run(t, of(having, sixteen), line, 3).Out
			without := matches.Run(t, of(lacking, sixteen), line, 3).Out
			if (with != "") != stands || with+without != line+"\n" {
				t.Errorf("%q: %q with %q in it, %q without", line, with, sixteen, without)
			}
		}
	}
}

// P6.2: a line is told as soon as its end has come
func TestALineIsToldByTheChunkThatEndsIt(t *testing.T) {
	m := matches.Make(t, of(having, "bc"))
	for _, c := range []struct{ chunk, out string }{
		{"a", ""},
		{"b", ""},
		{"c", ""},
		{"\n", "abc\n"},
		{"x\nbc\nybcy\nb", "bc\nybcy\n"},
		{"c\nb\nc", "bc\n"},
		{"bc", ""},
		{"\n\n", "cbc\n"},
	} {
		outs, e := m.Feed(0, []byte(c.chunk))
		if rig.Text(outs) != c.out || e != api.OK || m.Need() != 0 {
			t.Errorf("%q: %q, %v, Need %d; want %q", c.chunk, rig.Text(outs), e, m.Need(), c.out)
		}
	}
}

// P6.2
func TestTheLongLineFailsByItsByte(t *testing.T) {
	for n, out := range []string{"a\n", "b\n"} {
		d := matches.Drive(t, of(n, "a"))
		d.Feed("a\nb\n" + rig.Word(28))
		d.Feed(rig.Word(32))
		d.Feed("wxyz")
		if d.Seen != (rig.Seen{Out: out, Held: 64}) {
			t.Fatalf("N %d, 64 bytes: %+v", n, d.Seen)
		}
		d.Feed("!\na\nb\n")
		if d.Seen.Out != out || d.Seen.Need != api.Ended || d.Seen.Err != api.ErrLong {
			t.Errorf("N %d, one more: %+v; want ErrLong", n, d.Seen)
		}
		d.Pester()
	}
}

// P6.3
func TestHeldIsTheLineThatIsBegun(t *testing.T) {
	for _, n := range []int{having, lacking} {
		m := matches.Make(t, of(n, sixteen))
		for _, c := range []struct {
			chunk string
			held  int
		}{
			{"a", 1},
			{"bc", 3},
			{"\n", 0},
			{"\n", 0},
			{"x\nyz", 2},
			{sixteen, 18},
			{rig.Word(32), 50},
			{rig.Word(14), 64},
			{"\n", 0},
			{sixteen + "\n" + sixteen[:15], 15},
		} {
			if _, e := m.Feed(0, []byte(c.chunk)); e != api.OK || m.Held() != c.held {
				t.Errorf("N %d, behind %q: %v, Held %d; want %d", n, c.chunk, e, m.Held(), c.held)
			}
		}
		if m.End(0); m.Held() != 0 {
			t.Errorf("N %d: Held %d behind the end", n, m.Held())
		}
	}
}

// P6.4
func TestChunksOfMaxChunkBytesAreTakenAndNoGreaterOnes(t *testing.T) {
	matches.HoldChunkLimits(t, both("g", "z")...)
}

// P6.4
func TestRefusalsChangeNothing(t *testing.T) {
	for _, input := range inputs() {
		for _, p := range both("a", "aab", sixteen) {
			matches.HoldRefusals(t, p, input)
		}
	}
}

// P6.4: what is written over A behind New plays no part
func TestAIsNotKept(t *testing.T) {
	p := of(having, "ab")
	one, _ := New(p)
	copy(p.A, "xy")
	other, _ := New(p)
	p.A[0], p.A[1] = 'q', 'r'
	for _, c := range []struct {
		m   api.Machine
		out string
	}{{one, "1ab\n"}, {other, "2xy\n"}} {
		outs, e := c.m.Feed(0, []byte("1ab\n2xy\n3qr\n"))
		if rig.Text(outs) != c.out || e != api.OK {
			t.Errorf("%q, %v; want %q", rig.Text(outs), e, c.out)
		}
	}
	if string(p.A) != "qr" {
		t.Errorf("A is %q now", p.A)
	}
}

// P6.4
func TestMachinesShareNothing(t *testing.T) {
	one, other := matches.Drive(t, of(having, "b")), matches.Drive(t, of(lacking, "B"))
	for _, chunk := range []string{"a", "b\nc", "\nd", "b\ne"} {
		one.Feed(chunk)
		other.Feed(strings.ToUpper(chunk) + "Z")
	}
	one.End()
	other.End()
	if one.Seen.Out != "ab\ndb\n" || other.Seen.Out != "CZ\nEZ\n" {
		t.Errorf("%q, %q", one.Seen.Out, other.Seen.Out)
	}
}

// P6.4: answers that are kept stay as they are, whatever comes behind them
func TestAnswersAreNewMemory(t *testing.T) {
	for _, size := range []int{1, 2, 3, 5, 32} {
		matches.HoldAnswers(t, of(lacking, "-"), rig.Letters(), size)
	}
}

// P6.6
func TestMoreOfAnInputGoesOnFromWhatCame(t *testing.T) {
	for _, input := range inputs() {
		for _, p := range both("a", "aab", sixteen) {
			matches.HoldGrowth(t, p, input)
		}
	}
}

// P6.7: without the denotation, and without what drives by it
func TestEachLineComesOnceOfTheOneOrOfTheOther(t *testing.T) {
	lines := []string{"one", "", "two", "on", "eno", "none one", rig.Word(64), "", rig.Word(61) + "one", "ooone", "o", "ne"}
	for _, text := range []string{"o", "one", "g", "f", "ne", "oone", "none one", "abcdefg", "z", " "} {
		with, without := matches.Make(t, of(having, text)), matches.Make(t, of(lacking, text))
		for i, line := range lines {
			last := i == len(lines)-1
			got := []string{handLine(t, with, line, last), handLine(t, without, line, last)}
			if !slices.Contains(got, line+"\n") || !slices.Contains(got, "") {
				t.Errorf("A %q, line %q: %q with it, %q without it; want it once", text, line, got[0], got[1])
			}
		}
		if with.Need() != api.Ended || without.Need() != api.Ended {
			t.Errorf("A %q: Need %d, %d in the end", text, with.Need(), without.Need())
		}
	}
}

// handLine hands on a line byte by byte, and then its end, or, of the last one, that
// there are no more bytes; it answers all that came.
func handLine(t *testing.T, m api.Machine, line string, last bool) string {
	t.Helper()
	for i := range len(line) {
		outs, e := m.Feed(0, []byte(line[i:i+1]))
		if len(outs) != 0 || e != api.OK || m.Need() != 0 {
			t.Fatalf("byte %d of %q: %+v, %v, Need %d", i, line, outs, e, m.Need())
		}
	}
	outs, e := []api.Out(nil), api.OK
	if last {
		outs, e = m.End(0)
	} else {
		outs, e = m.Feed(0, []byte("\n"))
	}
	if e != api.OK {
		t.Fatalf("the end of %q: %v", line, e)
	}
	return rig.Text(outs)
}

// P6.2 to P6.7, of any bytes
func FuzzMatch(f *testing.F) {
	f.Add([]byte("b"), []byte("abc\nxyz\nb"), []byte{1, 2, 3})
	f.Add([]byte("aab"), []byte("aaab\n\nab"), []byte{})
	f.Add([]byte(sixteen), []byte("a\n"+rig.Word(65)+"\n"), []byte{31, 0})
	f.Add([]byte("ga"), []byte(rig.Word(64)+"\n\n\n"), []byte{7})
	f.Fuzz(func(t *testing.T, text, input, cuts []byte) {
		if len(input) > 4096 || len(text) == 0 || len(text) > 16 || slices.Contains(text, '\n') {
			return
		}
		with := matches.Run(t, of(having, string(text)), string(input), rig.Sizes(cuts)...)
		without := matches.Run(t, of(lacking, string(text)), string(input), rig.Sizes(cuts)...)
		if with.Err == api.OK && len(with.Out)+len(without.Out) < len(input) {
			t.Errorf("%q with, %q without; of %q", with.Out, without.Out, input)
		}
	})
}
