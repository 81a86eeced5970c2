package turn

import (
	"strings"
	"testing"

	"penstock/api"
	"penstock/rig"
)

// turns are what is tested, held against reckon.
var turns = rig.Subject{New: New, Reckon: rig.OfOne(reckon)}

// of makes the parameters of a turn.
func of(a, b string) api.Params {
	return api.Params{Kind: api.KindTurn, A: []byte(a), B: []byte(b)}
}

// reckon is the denotation: nothing is held, and it ends with its input alone.
func reckon(p api.Params, in rig.Input) rig.Seen {
	seen := rig.Seen{Out: turned(p, in.Text)}
	if in.Ended {
		seen.Need = api.Ended
	}
	return seen
}

// turned is a text in which each byte of A is replaced by that at its place in B.
func turned(p api.Params, text string) string {
	var pairs []string
	for i, c := range p.A {
		old, becomes := string([]byte{c}), ""
		if i < len(p.B) {
			becomes = string(p.B[i : i+1])
		}
		pairs = append(pairs, old, becomes)
	}
	return strings.NewReplacer(pairs...).Replace(text)
}

// row is n bytes, one behind the other as numbers, from the first one on.
func row(first, n int) string {
	text := make([]byte, n)
	for i := range text {
		text[i] = byte(first + i)
	}
	return string(text)
}

// some are parameters that are tried with all inputs.
func some() []api.Params {
	return []api.Params{
		of("abc", "xy"),
		of("a", ""), of("a", "b"), of("a", "a"), of("a", "\n"), of("a", "\x00"),
		of("\n", ""), of("\n", " "), of("\x00", ""), of("\x00", "\n"), of("\n\x00", "\x00\n"),
		of("ab", ""), of("ab", "b"), of("ab", "ba"), of("ab", "bc"), of("abc", "bca"), of("abc", "aaa"), of("abc", "ccc"),
		of("\xff\x7f\x80\x00", "\x00\x80\x7f\xff"), of("\xc3\xbf", "\xbf"), of("\r\t z", "z"),
		of(row(0, 64), ""), of(row(0, 64), row(64, 64)), of(row(64, 64), row(0, 63)),
		of(row(64, 64), row(65, 64)), of(row(192, 64), row(192, 1)), of(row(90, 64), strings.Repeat("b", 64)),
	}
}

// inputs are the rig's, and such as have bytes of every kind.
func inputs() []string {
	return append(rig.Inputs(),
		"\x00", "\xff", "aa", "ab", "ba", "abc", "cba", "aabbccd", "abcabcABC",
		"\n\x00\n\x00\x00\n\n", "a\nb\x00c\n",
		"\xc3\xbf\xbf\xc3é€",
		row(0, 256), row(128, 256), row(0, 256)+row(3, 100),
		strings.Repeat("a", 100), strings.Repeat("abc", 33)+"d", strings.Repeat("d", 65),
	)
}

// P7.1
func TestNewMakesAMachineOfTurnsAlone(t *testing.T) {
	for _, p := range append(some(), of(row(0, 64), row(0, 64)), of("x", "\xff")) {
		if m := turns.Make(t, p); m.Need() != 0 || m.Held() != 0 {
			t.Errorf("%+v: Need %d, Held %d; want 0, 0", p, m.Need(), m.Held())
		}
	}
	turns.Make(t, api.Params{Kind: api.KindTurn, A: []byte("a"), B: nil})
}

// P7.1
func TestNewRefuses(t *testing.T) {
	var own []rig.Refusal
	for _, n := range []int{-1, 1, 1000000000, 1<<63 - 1, -1 << 63} {
		own = append(own, rig.Refusal{P: api.Params{Kind: api.KindTurn, N: n, A: []byte("a")}, Err: api.ErrParam})
	}
	for _, c := range []struct{ a, b string }{
		{"", ""}, {"", "x"},
		{row(0, 65), ""}, {row(0, 65), row(0, 65)}, {row(0, 256), "x"}, {strings.Repeat("x", 5000), ""},
		{"aa", ""}, {"aba", "xyz"}, {"abb", ""}, {"\x00\x00", ""}, {row(0, 63) + "\x00", ""}, {row(0, 63) + "\x3e", "x"},
		{"a", "xy"}, {"abc", "xyzw"}, {"a", strings.Repeat("x", 5000)}, {row(0, 64), row(0, 65)},
	} {
		own = append(own, rig.Refusal{P: of(c.a, c.b), Err: api.ErrParam})
	}
	own = append(own, rig.Refusal{P: api.Params{Kind: api.KindTurn}, Err: api.ErrParam})
	turns.HoldNew(t, api.KindTurn, own...)
}

// P7.2
func TestTheChaptersExample(t *testing.T) {
	for size := 1; size <= api.MaxChunk; size++ {
		d := turns.Drive(t, of("abc", "xy"))
		d.Run("aabbccd", size)
		if d.Seen != (rig.Seen{Out: "xxyyd", Need: api.Ended}) {
			t.Errorf("by %d bytes: %+v; want xxyyd", size, d.Seen)
		}
	}
}

// P7.2, at each step; P7.3 and P7.5, too, and P7.4's memory
func TestTheDenotationComesByAllChunks(t *testing.T) {
	for _, input := range inputs() {
		for _, p := range some() {
			turns.HoldChunks(t, p, input)
		}
	}
}

// P7.2: the denotation is reckoned rightly
func TestWhatComesOfSomeInputs(t *testing.T) {
	for _, c := range []struct{ a, b, input, out string }{
		{"a", "", "", ""},
		{"a", "", "a", ""},
		{"a", "", "banana\n", "bnn\n"},
		{"a", "", "aaaa", ""},
		{"a", "o", "banana\n", "bonono\n"},
		{"a", "a", "banana", "banana"},
		{"a", "A", "AaBb", "AABb"},
		{"\n", "", "a\nb\n\n", "ab"},
		{"\n", ",", "a\nb\n\n", "a,b,,"},
		{",", "\n", "a,b,", "a\nb\n"},
		{"\x00", "", "a\x00\x00b\x01", "ab\x01"},
		{"\x00", "\xff", "a\x00\xff", "a\xff\xff"},
		{"\xff", "\x00", "a\x00\xff", "a\x00\x00"},
		{"\x00\n", "\n\x00", "\n\x00\n", "\x00\n\x00"},
		{"ab", "ba", "abba", "baab"},
		{"ab", "b", "abcab", "bcb"},
		{"ab", "bc", "aabbcc", "bbcccc"},
		{"ba", "cb", "aabbcc", "bbcccc"},
		{"abc", "bca", "abc", "bca"},
		{"abc", "xxx", "aabbcd", "xxxxxd"},
		{"bac", "12", "abcabc", "2121"},
		{"\xbf\xc3", "u", "\xc3\xbf\xc3\xa9", "u\xa9"},
		{row(0, 64), row(1, 64), row(0, 128), row(1, 64) + row(64, 64)},
		{row(0, 64), row(1, 63), row(0, 128), row(1, 63) + row(64, 64)},
		{row(0, 64), "", row(0, 128) + "\x00", row(64, 64)},
		{row(192, 64), row(0, 64), row(190, 66), "\xbe\xbf" + row(0, 64)},
		{"x", "", rig.Word(200) + "x", rig.Word(200)},
	} {
		want := rig.Seen{Out: c.out, Need: api.Ended}
		for _, size := range []int{1, 5, 32} {
			if seen := turns.Run(t, of(c.a, c.b), c.input, size); seen != want {
				t.Errorf("A %q, B %q of %q, by %d bytes: %+v; want %+v", c.a, c.b, c.input, size, seen, want)
			}
		}
	}
}

// P7.2: each of all 256 bytes, by each turn
func TestEachByteComesToOneOrToNone(t *testing.T) {
	for _, p := range some() {
		m := turns.Make(t, p)
		for c := range 256 {
			want := string([]byte{byte(c)})
			for at, from := range p.A {
				switch {
				case int(from) != c:
				case at < len(p.B):
					want = string([]byte{p.B[at]})
				default:
					want = ""
				}
			}
			outs, e := m.Feed(0, []byte{byte(c)})
			if rig.Text(outs) != want || e != api.OK || m.Need() != 0 {
				t.Errorf("%+v, byte %d: %q, %v, Need %d; want %q", p, c, rig.Text(outs), e, m.Need(), want)
			}
		}
	}
}

// P7.2: all that comes of a chunk comes by it, and nothing by the end
func TestAChunkIsToldAtOnce(t *testing.T) {
	m := turns.Make(t, of("abc\n", "xya"))
	for _, c := range []struct{ chunk, out string }{
		{"a", "x"},
		{"d", "d"},
		{"\n", ""},
		{"abcd\n", "xyad"},
		{strings.Repeat("ab", 16), strings.Repeat("xy", 16)},
		{strings.Repeat("a\n", 16), strings.Repeat("x", 16)},
		{rig.Word(32), strings.ReplaceAll("abcdefgabcdefgabcdefgabcdefgabcd", "abc", "xya")},
	} {
		outs, e := m.Feed(0, []byte(c.chunk))
		if rig.Text(outs) != c.out || e != api.OK || m.Need() != 0 {
			t.Errorf("%q: %q, %v, Need %d; want %q", c.chunk, rig.Text(outs), e, m.Need(), c.out)
		}
	}
	if outs, e := m.End(0); len(outs) != 0 || e != api.OK || m.Need() != api.Ended {
		t.Errorf("the end: %+v, %v, Need %d; want nothing", outs, e, m.Need())
	}
}

// P7.2: an answer of no bytes is none
func TestAChunkThatIsLeftOutIsAnsweredByNoOut(t *testing.T) {
	for _, p := range []api.Params{of("ab\n", ""), of("xab\n", "x"), of(row(0, 64), ""), of(row(90, 20), row(0, 7)), of("\n"+row(90, 63), "\x00")} {
		for _, chunk := range []string{"a", "b", "ab", strings.Repeat("ba", 16), "\n", row(1, 32)} {
			m := turns.Make(t, p)
			outs, e := m.Feed(0, []byte(chunk))
			if want := turned(p, chunk); want == "" && len(outs) != 0 || rig.Text(outs) != want || e != api.OK {
				t.Errorf("%+v, %q: %+v, %v; want %q", p, chunk, outs, e, want)
			}
			if m.Need() != 0 || m.Held() != 0 {
				t.Errorf("%+v, behind %q: Need %d, Held %d; want 0, 0", p, chunk, m.Need(), m.Held())
			}
		}
	}
}

// P7.2: an input that has not ended is read on; that it fails is no call of the machine
func TestAnInputThatDoesNotEndIsReadOn(t *testing.T) {
	d := turns.Drive(t, of("c\nab", "-;"))
	for range 300 {
		d.Feed("abc\n-;")
	}
	if d.Seen != (rig.Seen{Out: strings.Repeat("-;-;", 300)}) {
		t.Errorf("%+v", d.Seen)
	}
	d.End()
	if d.Seen != (rig.Seen{Out: strings.Repeat("-;-;", 300), Need: api.Ended}) {
		t.Errorf("behind the end: %+v", d.Seen)
	}
}

// P7.2: it knows no lines that are too long
func TestNoLineIsTooLong(t *testing.T) {
	for _, n := range []int{64, 65, 1000, 5000} {
		if seen := turns.Run(t, of("-", "x"), strings.Repeat("-", n), 32); seen != (rig.Seen{Out: strings.Repeat("x", n), Need: api.Ended}) {
			t.Errorf("%d bytes: %+v", n, seen)
		}
	}
}

// P7.3
func TestNothingIsHeld(t *testing.T) {
	for _, p := range []api.Params{of("a", ""), of("a", "b"), of(row(0, 64), row(1, 64))} {
		m := turns.Make(t, p)
		for _, chunk := range []string{"a", "b", "\n", "\x00", "aaaa", "x\nyz", rig.Word(32), rig.Word(32), rig.Word(1), "\n"} {
			if _, e := m.Feed(0, []byte(chunk)); e != api.OK || m.Held() != 0 {
				t.Errorf("%+v, behind %q: %v, Held %d; want 0", p, chunk, e, m.Held())
			}
		}
		if m.End(0); m.Held() != 0 {
			t.Errorf("%+v: Held %d behind the end", p, m.Held())
		}
	}
}

// P7.4
func TestChunksOfMaxChunkBytesAreTakenAndNoGreaterOnes(t *testing.T) {
	turns.HoldChunkLimits(t, some()...)
}

// P7.4
func TestRefusalsChangeNothing(t *testing.T) {
	for _, input := range inputs() {
		for _, p := range []api.Params{of("abc", "xy"), of("\n", ""), of("p", "q"), of(row(64, 64), row(65, 64))} {
			turns.HoldRefusals(t, p, input)
		}
	}
}

// P7.4: what is written over A and B behind New plays no part
func TestAAndBAreNotKept(t *testing.T) {
	p := of("abc", "xy")
	one, _ := New(p)
	copy(p.A, "xyz")
	copy(p.B, "12")
	other, _ := New(p)
	copy(p.A, "qrs")
	copy(p.B, "uv")
	for _, c := range []struct {
		m   api.Machine
		out string
	}{{one, "xyxyzqrs12"}, {other, "abc12qrs12"}} {
		outs, e := c.m.Feed(0, []byte("abcxyzqrs12"))
		if rig.Text(outs) != c.out || e != api.OK {
			t.Errorf("%q, %v; want %q", rig.Text(outs), e, c.out)
		}
	}
	if string(p.A) != "qrs" || string(p.B) != "uv" {
		t.Errorf("A is %q, B %q now", p.A, p.B)
	}
}

// P7.4
func TestMachinesShareNothing(t *testing.T) {
	one, other := turns.Drive(t, of("ab", "ba")), turns.Drive(t, of("ab", "c"))
	for _, chunk := range []string{"a", "b\nc", "\nd", "aab\ne"} {
		one.Feed(chunk)
		other.Feed(chunk + "a")
	}
	one.End()
	other.Feed("ab")
	other.End()
	if one.Seen.Out != "ba\nc\ndbba\ne" || other.Seen.Out != "cc\ncc\ndccc\necc" {
		t.Errorf("%q, %q", one.Seen.Out, other.Seen.Out)
	}
}

// P7.4: answers that are kept stay as they are, whatever comes behind them
func TestAnswersAreNewMemory(t *testing.T) {
	for _, size := range []int{1, 2, 3, 5, 32} {
		for _, p := range []api.Params{of("-", "+"), of("-", ""), of("abcdefgh", "hgfedcb")} {
			turns.HoldAnswers(t, p, rig.Letters(), size)
		}
	}
}

// P7.6
func TestMoreOfAnInputGoesOnFromWhatCame(t *testing.T) {
	for _, input := range inputs() {
		for _, p := range []api.Params{of("abc", "xy"), of("\n", ""), of("ab", "ba"), of(row(64, 64), row(65, 64))} {
			turns.HoldGrowth(t, p, input)
		}
	}
}

// P7.7: without the denotation, and without what drives by it
func TestPartsComeToWhatEachComesTo(t *testing.T) {
	parts := []string{"", "a", "b", "abc", "cba\n", "\x00\n\x00", rig.Word(64), row(0, 256), strings.Repeat("ab", 50)}
	for _, p := range some() {
		for _, first := range parts {
			for _, second := range parts {
				both, one, other := turns.Told(t, p, first+second, 7), turns.Told(t, p, first, 32), turns.Told(t, p, second, 1)
				if both != one+other {
					t.Errorf("%+v: %q and %q come to %q; each by itself to %q and %q", p, first, second, both, one, other)
				}
			}
		}
	}
}

// P7.2 to P7.6, of any bytes
func FuzzTurn(f *testing.F) {
	f.Add([]byte("abc"), []byte("xy"), []byte("aabbccd"), []byte{1, 2, 3})
	f.Add([]byte("\n\x00"), []byte{}, []byte("a\n\x00"), []byte{})
	f.Add([]byte(row(0, 64)), []byte(row(1, 64)), []byte(row(0, 256)), []byte{31, 0})
	f.Fuzz(func(t *testing.T, a, b, input, cuts []byte) {
		p := of(string(a), string(b))
		if len(input) > 4096 || !mayBe(a, b) {
			if m, e := New(p); !mayBe(a, b) && (m != nil || e != api.ErrParam) {
				t.Errorf("%+v: %v, %v; want ErrParam", p, m, e)
			}
			return
		}
		turns.Run(t, p, string(input), rig.Sizes(cuts)...)
	})
}

// mayBe tells whether these are the bytes of a turn.
func mayBe(a, b []byte) bool {
	stands := map[byte]int{}
	for _, c := range a {
		stands[c]++
	}
	return len(a) > 0 && len(a) <= 64 && len(stands) == len(a) && len(b) <= len(a)
}
