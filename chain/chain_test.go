package chain

import (
	"slices"
	"strings"
	"testing"

	"penstock/api"
	"penstock/rig"
)

// chains are what is tested, held against reckon.
var chains = rig.Subject{New: New, Reckon: reckon}

// of makes the parameters of a chain.
func of(n int) api.Params {
	return api.Params{Kind: api.KindChain, N: n}
}

// reckon is the denotation: nothing is held.
func reckon(_ api.Params, ins []rig.Input) rig.Seen {
	out := ""
	for i, in := range ins {
		out += in.Text
		if !in.Ended {
			return rig.Seen{Out: out, Need: i}
		}
	}
	return rig.Seen{Out: out, Need: api.Ended}
}

// lists are lists of inputs, of one as of four.
func lists() [][]string {
	long := strings.Repeat("-", 65)
	return [][]string{
		{""}, {"a"}, {"\n"}, {"a\nb"}, {rig.Every()}, {rig.Word(200)},
		{"", ""}, {"", "a"}, {"a", ""}, {"ab", "c"}, {"a\n", "b\n"}, {"a", "\n"}, {"\n", "\n"},
		{"a", "a"}, {rig.Word(32), rig.Word(33)}, {long, "\n" + long}, {rig.Every(), rig.Every()},
		{"", "", ""}, {"a", "", ""}, {"", "a", ""}, {"", "", "a"}, {"a", "", "b"}, {"ab", "cd", "ef"},
		{"\x00\n\r\xff", "\xff\r", "\n\x00"}, {rig.Word(31), rig.Word(64), rig.Word(1)}, {"a\n", long, "b"},
		{"", "", "", ""}, {"a", "", "", ""}, {"", "", "", "a"}, {"", "a", "", "b"}, {"a", "", "", "b"},
		{"a", "b", "c", "d"}, {"d", "c", "b", "a"}, {"\n", "\n\n", "\n\n\n", "\x00"}, {"\xff", "\x00", "\r", "\n"},
		{rig.Word(32), "", rig.Word(32), rig.Word(64)}, {"1\n2\n", "3", "\n4\n", "5"}, {long, long, "", long + "\n"},
	}
}

// ready answers a chain of n inputs of which the first ones, up to this one, have
// told a byte each, and have ended.
func ready(t *testing.T, n, port int) api.Machine {
	t.Helper()
	m := chains.Make(t, of(n))
	for i := range port {
		take(t, m, i, "x")
		end(t, m, i)
	}
	return m
}

// take hands a machine a chunk of this input: it must be told just so, and more of that
// input be asked for.
func take(t *testing.T, m api.Machine, port int, chunk string) {
	t.Helper()
	outs, e := m.Feed(port, []byte(chunk))
	if len(outs) == 0 || rig.Text(outs) != chunk || e != api.OK || m.Need() != port || m.Held() != 0 {
		t.Fatalf("%q of input %d: %+v, %v, Need %d, Held %d; want itself", chunk, port, outs, e, m.Need(), m.Held())
	}
	for _, o := range outs {
		if o.Port != 0 || len(o.Bytes) == 0 {
			t.Fatalf("%q of input %d: %+v; want bytes for output 0", chunk, port, outs)
		}
	}
}

// end tells a machine that this input has ended: nothing is told.
func end(t *testing.T, m api.Machine, port int) {
	t.Helper()
	if outs, e := m.End(port); len(outs) != 0 || e != api.OK || m.Held() != 0 {
		t.Fatalf("the end of input %d: %+v, %v, Held %d; want nothing", port, outs, e, m.Held())
	}
}

// P12.1
func TestNewMakesAMachineOfChainsAlone(t *testing.T) {
	chains.HoldNewByPorts(t, api.KindChain)
}

// P12.2
func TestTheChaptersExample(t *testing.T) {
	for size := 1; size <= api.MaxChunk; size++ {
		seen := chains.RunOf(t, of(2), rig.Whole("ab", "c"), size)
		if seen != (rig.Seen{Out: "abc", Need: api.Ended}) {
			t.Errorf("by %d bytes: %+v; want abc", size, seen)
		}
	}
}

// P12.2, at each step; P12.3 and P12.5, too, and P12.4's memory
func TestTheDenotationComesByAllChunks(t *testing.T) {
	for _, texts := range lists() {
		for _, ins := range rig.Endings(texts...) {
			chains.HoldChunksOf(t, of(len(ins)), ins)
		}
	}
}

// P12.2: the denotation is reckoned rightly
func TestWhatComesOfSomeInputs(t *testing.T) {
	long := rig.Word(300)
	for _, c := range []struct {
		inputs []string
		out    string
	}{
		{[]string{""}, ""},
		{[]string{"a"}, "a"},
		{[]string{"a\nb"}, "a\nb"},
		{[]string{"", ""}, ""},
		{[]string{"ab", "c"}, "abc"},
		{[]string{"c", "ab"}, "cab"},
		{[]string{"", "a"}, "a"},
		{[]string{"a", ""}, "a"},
		{[]string{"a", "b"}, "ab"},
		{[]string{"a\n", "b"}, "a\nb"},
		{[]string{"a", "\nb"}, "a\nb"},
		{[]string{"\n", "\n"}, "\n\n"},
		{[]string{"", "", ""}, ""},
		{[]string{"", "b", ""}, "b"},
		{[]string{"a", "", "c"}, "ac"},
		{[]string{"c\n", "b\n", "a\n"}, "c\nb\na\n"},
		{[]string{"\x00", "\xff\r", "\n\x00"}, "\x00\xff\r\n\x00"},
		{[]string{"", "", "", ""}, ""},
		{[]string{"", "", "", "d"}, "d"},
		{[]string{"a", "", "", ""}, "a"},
		{[]string{"", "b", "", "d"}, "bd"},
		{[]string{"a", "b", "c", "d"}, "abcd"},
		{[]string{"d", "c", "b", "a"}, "dcba"},
		{[]string{"a", "a", "a", "a"}, "aaaa"},
		{[]string{"1\n2", "\n", "3", "4\n"}, "1\n2\n34\n"},
		{[]string{long, "\n", long, "-"}, long + "\n" + long + "-"},
	} {
		want := rig.Seen{Out: c.out, Need: api.Ended}
		for _, size := range []int{1, 5, 32} {
			if seen := chains.RunOf(t, of(len(c.inputs)), rig.Whole(c.inputs...), size); seen != want {
				t.Errorf("%q, by %d bytes: %+v; want %+v", c.inputs, size, seen, want)
			}
		}
	}
}

// P12.2: of an input that has not ended, or has failed, and of what others told already
func TestAnInputThatHasNotEndedStopsWhatComes(t *testing.T) {
	for _, c := range []struct {
		ins  []rig.Input
		seen rig.Seen
	}{
		{[]rig.Input{rig.Begun("")}, rig.Seen{}},
		{[]rig.Input{rig.Begun("a\nb")}, rig.Seen{Out: "a\nb"}},
		{[]rig.Input{rig.Begun(""), rig.Begun("")}, rig.Seen{}},
		{[]rig.Input{rig.Begun(""), rig.Ended("bc")}, rig.Seen{}},
		{[]rig.Input{rig.Begun("a"), rig.Ended("bc")}, rig.Seen{Out: "a"}},
		{[]rig.Input{rig.Begun("a\n"), rig.Begun("bc")}, rig.Seen{Out: "a\n"}},
		{[]rig.Input{rig.Ended("a"), rig.Begun("bc")}, rig.Seen{Out: "abc", Need: 1}},
		{[]rig.Input{rig.Ended(""), rig.Begun("")}, rig.Seen{Need: 1}},
		{[]rig.Input{rig.Ended("a"), rig.Begun("")}, rig.Seen{Out: "a", Need: 1}},
		{[]rig.Input{rig.Begun("a"), rig.Ended("b"), rig.Ended("c")}, rig.Seen{Out: "a"}},
		{[]rig.Input{rig.Ended("a"), rig.Begun("b"), rig.Ended("c")}, rig.Seen{Out: "ab", Need: 1}},
		{[]rig.Input{rig.Ended("a"), rig.Begun(""), rig.Ended("c")}, rig.Seen{Out: "a", Need: 1}},
		{[]rig.Input{rig.Ended("a"), rig.Begun(""), rig.Begun("c")}, rig.Seen{Out: "a", Need: 1}},
		{[]rig.Input{rig.Ended("a"), rig.Ended("b"), rig.Begun("c")}, rig.Seen{Out: "abc", Need: 2}},
		{[]rig.Input{rig.Ended(""), rig.Ended(""), rig.Begun("")}, rig.Seen{Need: 2}},
		{[]rig.Input{rig.Begun("a"), rig.Ended("b"), rig.Ended("c"), rig.Ended("d")}, rig.Seen{Out: "a"}},
		{[]rig.Input{rig.Ended("a"), rig.Begun("b"), rig.Ended("c"), rig.Ended("d")}, rig.Seen{Out: "ab", Need: 1}},
		{[]rig.Input{rig.Ended("a"), rig.Ended("b"), rig.Begun("c"), rig.Ended("d")}, rig.Seen{Out: "abc", Need: 2}},
		{[]rig.Input{rig.Ended("a"), rig.Ended("b"), rig.Ended("c"), rig.Begun("d")}, rig.Seen{Out: "abcd", Need: 3}},
		{[]rig.Input{rig.Ended(""), rig.Ended(""), rig.Ended(""), rig.Begun("")}, rig.Seen{Need: 3}},
	} {
		for _, size := range []int{1, 2, 32} {
			if seen := chains.RunOf(t, of(len(c.ins)), c.ins, size); seen != c.seen {
				t.Errorf("%v, by %d bytes: %+v; want %+v", c.ins, size, seen, c.seen)
			}
		}
	}
}

// P12.2: all that comes of a chunk comes by it, of whichever input
func TestAChunkIsToldAtOnce(t *testing.T) {
	for n := 1; n <= api.MaxPorts; n++ {
		for port := range n {
			m := ready(t, n, port)
			for _, chunk := range []string{"a", "\n", "b\n\nc", "\x00\n\r\xff", rig.Word(31), rig.Word(32), strings.Repeat("\n", 32), strings.Repeat("\x00", 32)} {
				take(t, m, port, chunk)
			}
			end(t, m, port)
		}
	}
}

// P12.2: each of all 256 bytes, by each input
func TestEachByteGoesOnAsItComes(t *testing.T) {
	for port := range api.MaxPorts {
		m := ready(t, api.MaxPorts, port)
		for c := range 256 {
			take(t, m, port, string([]byte{byte(c)}))
		}
	}
}

// P12.2: by an input's end the next one is asked for, by the last one's nothing
func TestAnEndAsksForTheNextInput(t *testing.T) {
	for n := 1; n <= api.MaxPorts; n++ {
		for _, chunk := range []string{"", "a", "a\n"} {
			m := chains.Make(t, of(n))
			for port := range n {
				if m.Need() != port {
					t.Fatalf("N %d: Need %d; want %d", n, m.Need(), port)
				}
				if chunk != "" {
					take(t, m, port, chunk)
				}
				end(t, m, port)
			}
			if m.Need() != api.Ended {
				t.Errorf("N %d, behind the last end: Need %d; want Ended", n, m.Need())
			}
		}
	}
}

// P12.2: as long as an input does not end, no other one is asked for
func TestAnInputThatDoesNotEndIsReadOn(t *testing.T) {
	for port := range api.MaxPorts {
		d := chains.Drive(t, of(api.MaxPorts))
		for range port {
			d.End()
		}
		for range 300 {
			d.Feed("abc\n-")
			d.Feed("\n;")
		}
		all := strings.Repeat("abc\n-\n;", 300)
		if d.Seen != (rig.Seen{Out: all, Need: port}) {
			t.Errorf("input %d: %+v", port, d.Seen)
		}
		for range api.MaxPorts - port {
			d.End()
		}
		if d.Seen != (rig.Seen{Out: all, Need: api.Ended}) {
			t.Errorf("input %d, behind the end: %+v", port, d.Seen)
		}
	}
}

// P12.2: it knows no lines
func TestNoLineIsTooLong(t *testing.T) {
	for _, n := range []int{64, 65, 66, 1000, 5000} {
		texts := []string{strings.Repeat("-", n), strings.Repeat("+", n), strings.Repeat("\x00", n), rig.Word(n) + "\n"}
		seen := chains.RunOf(t, of(4), rig.Whole(texts...), 32)
		if seen != (rig.Seen{Out: strings.Join(texts, ""), Need: api.Ended}) {
			t.Errorf("%d bytes: %+v", n, seen)
		}
	}
}

// P12.3
func TestNothingIsHeld(t *testing.T) {
	for n := 1; n <= api.MaxPorts; n++ {
		m := chains.Make(t, of(n))
		for port := range n {
			for _, chunk := range []string{"a", "\n", "a\nb", rig.Word(32), rig.Word(32), rig.Word(1), "\x00"} {
				take(t, m, port, chunk)
			}
			end(t, m, port)
		}
		m.End(0)
		if m.Held() != 0 {
			t.Errorf("N %d: Held %d behind the end", n, m.Held())
		}
	}
}

// P12.4
func TestChunksOfMaxChunkBytesAreTakenAndNoGreaterOnes(t *testing.T) {
	chains.HoldChunkLimits(t, of(1), of(2), of(3), of(4))
}

// P12.4: ahead of each step, and behind the last one
func TestRefusalsChangeNothing(t *testing.T) {
	for _, texts := range lists() {
		for _, ins := range rig.Endings(texts...) {
			if len(texts) < 4 || !slices.Contains(texts, "") {
				chains.HoldRefusalsOf(t, of(len(ins)), ins)
			}
		}
	}
}

// P12.4: one by one, while each input is read: those that have ended, those that come
// later, such as there are not; chunks of no bytes, and of too many; More
func TestEachUndueCallIsRefused(t *testing.T) {
	for n := 1; n <= api.MaxPorts; n++ {
		for port := range n {
			for _, call := range rig.UndueCallsOf(port) {
				m := ready(t, n, port)
				for range 2 {
					rig.HoldUndue(t, m, call)
					take(t, m, port, "a\nb")
				}
				call.Make(m)
				for i := port; i < n; i++ {
					end(t, m, i)
				}
				rig.HoldDone(t, m, call)
			}
		}
	}
}

// P12.4: whatever is called, of whichever input
func TestBehindTheEndAllIsRefused(t *testing.T) {
	for n := 1; n <= api.MaxPorts; n++ {
		m := ready(t, n, n)
		calls := rig.UndueCallsOf(-4)
		for range 2 {
			for _, call := range append(calls, rig.FeedOf(n-1, []byte("a")), rig.FeedOf(0, []byte(rig.Word(32)))) {
				rig.HoldDone(t, m, call)
			}
		}
	}
}

// P12.4
func TestMachinesShareNothing(t *testing.T) {
	one, other := chains.Drive(t, of(2)), chains.Drive(t, of(3))
	for _, chunk := range []string{"a", "b\nc", "\nd"} {
		one.Feed(chunk)
		other.Feed(strings.ToUpper(chunk))
		other.End()
	}
	third := chains.Drive(t, of(2))
	for _, d := range []*rig.Driver{third, one} {
		d.Feed("z")
		d.End()
		d.Feed("y")
		d.End()
	}
	if one.Seen.Out != "ab\nc\ndzy" || other.Seen.Out != "AB\nC\nD" || third.Seen.Out != "zy" {
		t.Errorf("%q, %q, %q", one.Seen.Out, other.Seen.Out, third.Seen.Out)
	}
}

// P12.4: what is written over a chunk behind Feed plays no part, and what is written
// over an answer is not seen in the chunk
func TestChunksAreNeitherKeptNorChanged(t *testing.T) {
	m := chains.Make(t, of(2))
	chunk := make([]byte, 4, 8)
	for port := range 2 {
		for _, text := range []string{"a\nbc", "\n\n\n\n", "\x00\xff\r\n"} {
			copy(chunk, text)
			first, _ := m.Feed(port, chunk)
			if string(chunk) != text {
				t.Errorf("%q is %q behind Feed", text, chunk)
			}
			for _, o := range first {
				copy(o.Bytes[:cap(o.Bytes)], "????")
			}
			if string(chunk) != text {
				t.Errorf("%q is %q behind a change of the answer", text, chunk)
			}
			second, e := m.Feed(port, chunk)
			copy(chunk, "!!!!")
			if rig.Text(second) != text || e != api.OK {
				t.Errorf("%q: %q, %v, behind a change of the chunk", text, rig.Text(second), e)
			}
		}
		end(t, m, port)
	}
}

// P12.4: answers that are kept stay as they are, whatever comes behind them
func TestAnswersAreNewMemory(t *testing.T) {
	for size := 1; size <= api.MaxChunk; size++ {
		for _, texts := range [][]string{{rig.Letters()}, {rig.Letters(), rig.Every()}, {"abc", rig.Word(100), rig.Letters()}, {rig.Every(), "", "a\n", rig.Letters()}} {
			chains.HoldAnswersOf(t, of(len(texts)), rig.Whole(texts...), size)
		}
	}
}

// P12.4: no two answers share memory, nor what stands behind it
func TestAnswersShareNothing(t *testing.T) {
	m := chains.Make(t, of(2))
	var kept []api.Out
	for port := range 2 {
		for _, chunk := range []string{"a\nb", "cd", rig.Word(32), "\n"} {
			outs, _ := m.Feed(port, []byte(chunk))
			kept = append(kept, outs...)
		}
		end(t, m, port)
	}
	rig.HoldApart(t, kept...)
}

// P12.5: each input by chunks of a size of its own
func TestEachInputComesByChunksOfItsOwn(t *testing.T) {
	texts := []string{rig.Word(70), "a\n" + rig.Letters(), rig.Every(), rig.Word(33)}
	want := strings.Join(texts, "")
	for size := 1; size <= api.MaxChunk; size++ {
		d := chains.Drive(t, of(4))
		for port, text := range texts {
			for own := (size+7*port)%api.MaxChunk + 1; text != ""; text = text[min(own, len(text)):] {
				d.Feed(text[:min(own, len(text))])
			}
			d.End()
		}
		if d.Seen != (rig.Seen{Out: want, Need: api.Ended}) {
			t.Errorf("from size %d on: %+v", size, d.Seen)
		}
	}
}

// P12.6: of the input that is read, and of others, too
func TestMoreOfInputsGoesOnFromWhatCame(t *testing.T) {
	for _, texts := range lists() {
		for _, ins := range rig.Endings(texts...) {
			if ended := ins[0].Ended; ended || len(ins) < 3 {
				chains.HoldGrowthOf(t, of(len(ins)), ins)
			}
		}
	}
}

// P12.7: without the denotation, and without what drives by it
func TestAllBytesComeOneInputBehindTheOther(t *testing.T) {
	for _, texts := range lists() {
		for _, size := range []int{1, 3, 31, 32} {
			if got := chains.ToldOf(t, of(len(texts)), size, texts...); got != strings.Join(texts, "") {
				t.Errorf("%q by %d bytes: %q", texts, size, got)
			}
		}
	}
}

// P12.7: a text that is parted anywhere comes to itself
func TestPartsOfATextComeToIt(t *testing.T) {
	text := "ab\n\x00c\xff\r\nd\n"
	for first := range len(text) + 1 {
		for second := first; second <= len(text); second++ {
			for third := second; third <= len(text); third++ {
				parts := []string{text[:first], text[first:second], text[second:third], text[third:]}
				if got := chains.ToldOf(t, of(4), 4, parts...); got != text {
					t.Errorf("%q comes to %q", parts, got)
				}
			}
		}
	}
}

// P12.7: of all pairs of inputs of a few bytes
func TestSmallInputsComeOneBehindTheOther(t *testing.T) {
	for _, first := range rig.SmallInputs(3) {
		for _, second := range rig.SmallInputs(3) {
			if got := chains.ToldOf(t, of(2), 2, first, second); got != first+second {
				t.Errorf("%q, %q come to %q", first, second, got)
			}
		}
	}
}

// P12.2 to P12.7, of any bytes
func FuzzChain(f *testing.F) {
	f.Add(uint8(1), []byte("abc"), uint16(2), uint16(0), uint16(0), []byte{1, 2, 3}, uint8(15))
	f.Add(uint8(3), []byte("a\nb\x00c\xff"), uint16(1), uint16(3), uint16(3), []byte{31, 0}, uint8(13))
	f.Add(uint8(0), []byte(""), uint16(0), uint16(0), uint16(0), []byte{}, uint8(0))
	f.Add(uint8(2), []byte(rig.Word(200)), uint16(65), uint16(190), uint16(0), []byte{7}, uint8(3))
	f.Fuzz(func(t *testing.T, count uint8, all []byte, first, second, third uint16, cuts []byte, ended uint8) {
		if len(all) > 4096 {
			return
		}
		var parts []string
		left := string(all)
		for i := range int(count) % api.MaxPorts {
			at := int([]uint16{first, second, third}[i]) % (len(left) + 1)
			parts = append(parts, left[:at])
			left = left[at:]
		}
		parts = append(parts, left)
		ins := rig.Whole(parts...)
		for i := range ins {
			ins[i].Ended = ended>>i&1 == 1
		}
		chains.RunOf(t, of(len(ins)), ins, rig.Sizes(cuts)...)
		if got := chains.ToldOf(t, of(len(parts)), 5, parts...); got != strings.Join(parts, "") {
			t.Errorf("%q come to %q", parts, got)
		}
	})
}
