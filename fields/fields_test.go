package fields

import (
	"strings"
	"testing"

	"penstock/api"
	"penstock/rig"
)

// choices are what is tested, held against reckon.
var choices = rig.Subject{New: New, Reckon: rig.OfOne(reckon)}

// all is the greatest N: each bit.
const all = 65535

// letters are as many fields as have a place, each of one byte.
const letters = "abcdefghijklmnop"

// of makes the parameters of fields.
func of(n int, a string) api.Params {
	return api.Params{Kind: api.KindFields, N: n, A: []byte(a)}
}

// reckon is the denotation.
func reckon(p api.Params, in rig.Input) rig.Seen {
	return rig.EachLine(in, func(line string) string {
		return comesTo(line, p.A[0], p.N) + "\n"
	})
}

// comesTo is what a line comes to, byte by byte: an A ends a field, and is told only
// between two fields that are told.
func comesTo(line string, a byte, n int) string {
	told, place, stands := []byte{}, 0, false
	somethingTold := isBit(n, 0)
	for i := range len(line) {
		if line[i] != a {
			if isBit(n, place) {
				told = append(told, line[i])
			}
			continue
		}
		stands = true
		place++
		if isBit(n, place) && somethingTold {
			told = append(told, a)
		}
		somethingTold = somethingTold || isBit(n, place)
	}
	if !stands {
		return line
	}
	return string(told)
}

// isBit tells whether a number has this bit, of those that have a place.
func isBit(n, place int) bool {
	for range place {
		n /= 2
	}
	return place < 16 && n%2 == 1
}

// bits is the number that has these bits.
func bits(places ...int) int {
	n := 0
	for _, place := range places {
		n += 1 << place
	}
	return n
}

// some are the Ns that are tried with all inputs.
func some() []int {
	return []int{1, 2, 3, bits(0, 2), bits(1, 2), bits(15), bits(0, 15), bits(1, 14, 15), all - 1, all}
}

// row is a line of the first so many fields of rows that go on, parted by a byte.
func row(fields int, parting string) string {
	return strings.Join(strings.Split(rig.Word(fields), ""), parting)
}

// inputs are the rig's, and such as are parted by ':'.
func inputs() []string {
	return append(rig.Inputs(),
		"a:b:c:d\nplain\n",
		"one:two:three\none:two\none\n\n:\n::\n:::\nx:y:z",
		":b:c\na::c\na:b:\n:b:\n::c\na::\n",
		":::::::::::::::\n::::::::::::::::\n:::::::::::::::::\nx",
		row(15, ":")+"\n"+row(16, ":")+"\n"+row(17, ":")+"\n"+row(32, ":"),
		strings.Repeat(":", 64)+"\n"+strings.Repeat(":", 63)+"\n"+strings.Repeat("x:", 32)+"\n"+strings.Repeat(":y", 32),
		strings.Repeat(":", 15)+rig.Word(49)+"\n"+strings.Repeat(":", 16)+rig.Word(48)+"\n"+rig.Word(63)+":\n:"+rig.Word(63),
		"a:b\n"+strings.Repeat(":", 65)+"\na:b\n",
		"a:b\n"+strings.Repeat("x:", 33)+"\na:b\n",
		"a:b\na\n"+rig.Word(30)+":"+rig.Word(34),
		"a:b\n"+rig.Word(64)+":",
		"a:b\n:"+rig.Word(64)+"\n",
		"a: b:c ;d,e\r\n\t:\x0b:\x00:\xff\n",
	)
}

// parted is an input whose parting byte is another one.
func parted(input, a string) string { return strings.ReplaceAll(input, ":", a) }

// P8.1
func TestNewMakesAMachineOfFieldsAlone(t *testing.T) {
	for _, n := range append(some(), 32768, 65534) {
		for _, a := range []string{":", "a", "\x00", "\t", "\x0b", "\r", "\x7f", "\x80", "\xff"} {
			if m := choices.Make(t, of(n, a)); m.Need() != 0 || m.Held() != 0 {
				t.Errorf("N %d, A %q: Need %d, Held %d; want 0, 0", n, a, m.Need(), m.Held())
			}
		}
	}
	choices.Make(t, api.Params{Kind: api.KindFields, N: 1, A: []byte(","), B: []byte{}})
}

// P8.1
func TestNewRefuses(t *testing.T) {
	var own []rig.Refusal
	for _, n := range []int{0, -1, -65535, all + 1, 1 << 16, 1<<16 + 1, 1000000000, 1<<63 - 1, -1 << 63} {
		own = append(own, rig.Refusal{P: of(n, ":"), Err: api.ErrParam})
	}
	for _, a := range []string{"", "::", ":,", "\n", "\n\n", ":\n", "\n:", strings.Repeat(":", 5000)} {
		own = append(own, rig.Refusal{P: of(1, a), Err: api.ErrParam})
	}
	own = append(own,
		rig.Refusal{P: api.Params{Kind: api.KindFields, N: 1, A: nil}, Err: api.ErrParam},
		rig.Refusal{P: api.Params{Kind: api.KindFields, N: 1, A: []byte(":"), B: []byte(":")}, Err: api.ErrParam},
		rig.Refusal{P: api.Params{Kind: api.KindFields, N: 1, B: []byte(":")}, Err: api.ErrParam},
		rig.Refusal{P: api.Params{Kind: api.KindFields}, Err: api.ErrParam},
	)
	choices.HoldNew(t, api.KindFields, own...)
}

// P8.2
func TestTheChaptersExample(t *testing.T) {
	for _, input := range []string{"a:b:c:d\nplain\n", "a:b:c:d\nplain"} {
		for size := 1; size <= api.MaxChunk; size++ {
			d := choices.Drive(t, of(5, ":"))
			d.Run(input, size)
			if d.Seen != (rig.Seen{Out: "a:c\nplain\n", Need: api.Ended}) {
				t.Errorf("%q by %d bytes: %+v; want a:c, plain", input, size, d.Seen)
			}
		}
	}
}

// P8.2, at each step; P8.3 and P8.5, too, and P8.4's memory
func TestTheDenotationComesByAllChunks(t *testing.T) {
	for _, input := range inputs() {
		for _, n := range some() {
			choices.HoldChunks(t, of(n, ":"), input)
		}
	}
}

// P8.2 and P8.5: whatever byte parts the fields
func TestAnyByteMayPart(t *testing.T) {
	for _, input := range inputs() {
		for _, a := range []string{"\x00", "\xff", "\r", "\x80", "b"} {
			choices.HoldChunks(t, of(bits(0, 2), a), parted(input, a))
		}
	}
}

// P8.2: the denotation is reckoned rightly
func TestWhatComesOfSomeInputs(t *testing.T) {
	for _, c := range []struct {
		n             int
		a, input, out string
	}{
		{1, ":", "", ""},
		{1, ":", "\n", "\n"},
		{2, ":", "\n\n", "\n\n"},
		{all, ":", "\n", "\n"},
		{1, ":", ":", "\n"},
		{2, ":", ":\n", "\n"},
		{3, ":", ":", ":\n"},
		{4, ":", ":\n", "\n"},
		{bits(0, 2), ":", ":\n", "\n"},
		{all, ":", ":", ":\n"},
		{1, ":", "plain\na", "plain\na\n"},
		{2, ":", "plain\na", "plain\na\n"},
		{bits(15), ":", "plain\n", "plain\n"},
		{1, ":", "a:b:c", "a\n"},
		{2, ":", "a:b:c", "b\n"},
		{4, ":", "a:b:c\n", "c\n"},
		{8, ":", "a:b:c\nx\na:b:c:d", "\nx\nd\n"},
		{3, ":", "a:b:c", "a:b\n"},
		{5, ":", "a:b:c", "a:c\n"},
		{6, ":", "a:b:c", "b:c\n"},
		{7, ":", "a:b:c\na:b\na", "a:b:c\na:b\na\n"},
		{bits(0, 3), ":", "a:b:c\na:b:c:d", "a\na:d\n"},
		{bits(2, 3), ":", "a:b\na:b:c\n", "\nc\n"},
		{3, ":", ":b:c\na::c\n", ":b\na:\n"},
		{5, ":", ":b:c\na::c\na:b:\n:b:", ":c\na:c\na:\n:\n"},
		{6, ":", ":b:c\na::c\na:b:\na::", "b:c\n:c\nb:\n:\n"},
		{5, ",", "a,b:c,d", "a,d\n"},
		{5, ":", "a,b,c,d", "a,b,c,d\n"},
		{5, "b", "abcbd\nBb\n", "abd\nB\n"},
		{5, "\x00", "a\x00b\x00c\na:b", "a\x00c\na:b\n"},
		{6, "\xff", "a\xffb\xffc\n\xc3\xbf\n", "b\xffc\n\xc3\xbf\n"},
		{2, "\xbf", "a\xc3\xbfb\xc2\xbf", "b\xc2\n"},
		{2, "\r", "a\rb\r\n", "b\n"},
		{2, " ", "a  b", "\n"},
		{all, ":", row(16, ":"), row(16, ":") + "\n"},
		{all, ":", row(17, ":"), row(16, ":") + "\n"},
		{all, ":", row(32, ":"), row(16, ":") + "\n"},
		{all, ":", strings.Repeat(":", 64), strings.Repeat(":", 15) + "\n"},
		{1, ":", strings.Repeat(":", 64) + "\n", "\n"},
		{bits(15), ":", strings.Repeat(":", 15) + "x:y:z\n", "x\n"},
		{bits(15), ":", strings.Repeat(":", 16) + "x", "\n"},
		{bits(14, 15), ":", strings.Repeat(":", 14) + "x", "x\n"},
		{bits(0, 15), ":", "a" + strings.Repeat(":", 15) + "b:c", "a:b\n"},
		{2, ":", ":" + rig.Word(63) + "\n" + rig.Word(63) + ":", rig.Word(63) + "\n\n"},
		{2, ":", rig.Word(64), rig.Word(64) + "\n"},
	} {
		want := rig.Seen{Out: c.out, Need: api.Ended}
		for _, size := range []int{1, 5, 32} {
			if seen := choices.Run(t, of(c.n, c.a), c.input, size); seen != want {
				t.Errorf("N %d, A %q of %q, by %d bytes: %+v; want %+v", c.n, c.a, c.input, size, seen, want)
			}
		}
	}
}

// P8.2: what comes ahead of a line that is too long, and nothing behind it
func TestTheLongLineFails(t *testing.T) {
	for _, long := range []string{
		rig.Word(65), strings.Repeat(":", 65), rig.Word(64) + ":", ":" + rig.Word(64), rig.Word(32) + ":" + rig.Word(32),
		"a:b:c:d:" + rig.Word(57), rig.Word(200), strings.Repeat("x:", 100),
	} {
		for _, ahead := range []string{"", "a:b:c\nx\n"} {
			for _, behind := range []string{"", "\n", "\na:b:c\n"} {
				want := ""
				if ahead != "" {
					want = "a:c\nx\n"
				}
				for _, size := range []int{1, 7, 32} {
					seen := choices.Run(t, of(5, ":"), ahead+long+behind, size)
					if seen.Out != want || seen.Need != api.Ended || seen.Err != api.ErrLong {
						t.Errorf("%q by %d bytes: %+v; want %q, ErrLong", ahead+long+behind, size, seen, want)
					}
				}
			}
		}
	}
}

// P8.2: each bit alone, of lines of one field to 65
func TestEachBitTellsTheFieldOfItsPlace(t *testing.T) {
	for place := range 16 {
		p := of(1<<place, ":")
		for count := 2; count <= 16; count++ {
			want := ""
			if place < count {
				want = letters[place : place+1]
			}
			line := strings.Join(strings.Split(letters[:count], ""), ":")
			for _, input := range []string{line, line + "\n"} {
				if got := choices.Told(t, p, input, 3); got != want+"\n" {
					t.Errorf("bit %d of %q: %q; want %q", place, input, got, want)
				}
			}
		}
		line := strings.Join(strings.Split(letters, ""), ":")
		for _, behind := range []string{"", ":", ":q", "::::::::", ":q:r:s:t:u:v:w:x:y:z", strings.Repeat(":", 33)} {
			if got := choices.Told(t, p, line+behind, 32); got != letters[place:place+1]+"\n" {
				t.Errorf("bit %d of %q: %q; want %q", place, line+behind, got, letters[place:place+1])
			}
		}
		if got := choices.Told(t, p, letters, 32); got != letters+"\n" {
			t.Errorf("bit %d of %q: %q; want all of it", place, letters, got)
		}
	}
}

// P8.2: all Ns, of a line of all fields, and of one that has more
func TestEachNumberTellsTheFieldsOfItsBits(t *testing.T) {
	line := strings.Join(strings.Split(letters, ""), ":")
	for n := 1; n <= all; n++ {
		want := ""
		for place := range 16 {
			if n&(1<<place) != 0 {
				want += ":" + letters[place:place+1]
			}
		}
		want = want[1:] + "\n"
		if got := choices.Told(t, of(n, ":"), line+"\n"+line+":q:r", 32); got != want+want {
			t.Fatalf("N %d of %q: %q; want %q", n, line, got, want)
		}
	}
}

// P8.2: each byte that may be A, beside each other one
func TestEachByteButTheLinesEndParts(t *testing.T) {
	for first := range 256 {
		for second := range 256 {
			a, c := string([]byte{byte(first)}), string([]byte{byte(second)})
			if a == "\n" || c == "\n" || a == c {
				continue
			}
			input := c + a + c + c + a + a + "\n" + c
			if got := choices.Told(t, of(bits(1, 2), a), input, 32); got != c+c+a+"\n"+c+"\n" {
				t.Fatalf("A %q: %q comes to %q", a, input, got)
			}
		}
	}
}

// P8.2: a line is told as soon as its end has come
func TestALineIsToldByTheChunkThatEndsIt(t *testing.T) {
	m := choices.Make(t, of(5, ":"))
	for _, c := range []struct{ chunk, out string }{
		{"a", ""},
		{":", ""},
		{"b:", ""},
		{"c", ""},
		{":d", ""},
		{"\n", "a:c\n"},
		{"x\n:y\nx:y:z\na", "x\n\nx:z\n"},
		{":\n\n:", "a\n\n"},
		{":::", ""},
		{"\n", ":\n"},
		{strings.Repeat("\n", 32), strings.Repeat("\n", 32)},
		{strings.Repeat(":\n", 16), strings.Repeat("\n", 16)},
	} {
		outs, e := m.Feed(0, []byte(c.chunk))
		if rig.Text(outs) != c.out || e != api.OK || m.Need() != 0 {
			t.Errorf("%q: %q, %v, Need %d; want %q", c.chunk, rig.Text(outs), e, m.Need(), c.out)
		}
	}
}

// P8.2: an input that has not ended is read on; that it fails is no call of the machine
func TestAnInputThatDoesNotEndIsReadOn(t *testing.T) {
	d := choices.Drive(t, of(2, ":"))
	for range 200 {
		d.Feed("a:b:c\n:")
		d.Feed("x\n")
	}
	d.Feed("a:b")
	if d.Seen != (rig.Seen{Out: strings.Repeat("b\nx\n", 200), Held: 3}) {
		t.Errorf("%+v", d.Seen)
	}
	d.End()
	if d.Seen != (rig.Seen{Out: strings.Repeat("b\nx\n", 200) + "b\n", Need: api.Ended}) {
		t.Errorf("behind the end: %+v", d.Seen)
	}
}

// P8.2 and P8.4
func TestTheLongLineFailsByItsByte(t *testing.T) {
	for _, last := range []string{"!\na:b\n", ":\na:b\n"} {
		d := choices.Drive(t, of(1, ":"))
		d.Feed("a:b\nb\n" + rig.Word(26))
		d.Feed(":" + rig.Word(31))
		d.Feed("uvwxyz")
		if d.Seen != (rig.Seen{Out: "a\nb\n", Held: 64}) {
			t.Fatalf("64 bytes: %+v", d.Seen)
		}
		d.Feed(last)
		if d.Seen.Out != "a\nb\n" || d.Seen.Need != api.Ended || d.Seen.Err != api.ErrLong {
			t.Errorf("one more: %+v; want ErrLong", d.Seen)
		}
		d.Pester()
	}
}

// P8.3
func TestHeldIsTheLineThatIsBegun(t *testing.T) {
	for _, n := range []int{1, bits(15), all} {
		m := choices.Make(t, of(n, ":"))
		for _, c := range []struct {
			chunk string
			held  int
		}{
			{"a", 1},
			{":", 2},
			{"bc:", 5},
			{"\n", 0},
			{"\n", 0},
			{"x:y\nyz", 2},
			{strings.Repeat(":", 16), 18},
			{rig.Word(32), 50},
			{strings.Repeat(":", 14), 64},
			{"\n", 0},
			{"a:b:c\n" + rig.Word(15), 15},
		} {
			if _, e := m.Feed(0, []byte(c.chunk)); e != api.OK || m.Held() != c.held {
				t.Errorf("N %d, behind %q: %v, Held %d; want %d", n, c.chunk, e, m.Held(), c.held)
			}
		}
		if m.End(0); m.Held() != 0 {
			t.Errorf("N %d: Held %d behind the end", n, m.Held())
		}
	}
}

// P8.4
func TestChunksOfMaxChunkBytesAreTakenAndNoGreaterOnes(t *testing.T) {
	choices.HoldChunkLimits(t, of(1, ":"), of(2, "c"), of(all, "a"), of(5, "b"))
}

// P8.4: ahead of each step, behind the end, and behind a line that is too long
func TestRefusalsChangeNothing(t *testing.T) {
	for _, input := range inputs() {
		for _, p := range []api.Params{of(1, ":"), of(bits(0, 2), ":"), of(all, ":"), of(3, "p")} {
			choices.HoldRefusals(t, p, input)
		}
	}
}

// P8.4: what is written over A behind New plays no part
func TestAIsNotKept(t *testing.T) {
	p := of(2, ":")
	one, _ := New(p)
	p.A[0] = ','
	other, _ := New(p)
	p.A[0] = ';'
	for _, c := range []struct {
		m   api.Machine
		out string
	}{{one, "b,c;d\n"}, {other, "c;d:e\n"}} {
		outs, e := c.m.Feed(0, []byte("a:b,c;d:e\n"))
		if rig.Text(outs) != c.out || e != api.OK {
			t.Errorf("%q, %v; want %q", rig.Text(outs), e, c.out)
		}
	}
	if string(p.A) != ";" {
		t.Errorf("A is %q now", p.A)
	}
}

// P8.4
func TestMachinesShareNothing(t *testing.T) {
	one, other := choices.Drive(t, of(1, ":")), choices.Drive(t, of(6, "-"))
	for _, chunk := range []string{"a", ":b\nc", "\nd", ":b\ne"} {
		one.Feed(chunk)
		other.Feed("-" + chunk + "-Z")
	}
	one.End()
	other.End()
	if one.Seen.Out != "a\nc\nd\ne\n" || other.Seen.Out != "a-Z\nZ-\nZ-:b\nZ\n" {
		t.Errorf("%q, %q", one.Seen.Out, other.Seen.Out)
	}
}

// P8.4: answers that are kept stay as they are, whatever comes behind them
func TestAnswersAreNewMemory(t *testing.T) {
	for _, size := range []int{1, 2, 3, 5, 32} {
		for _, p := range []api.Params{of(1, "-"), of(2, "e"), of(all, "k"), of(3, "z")} {
			choices.HoldAnswers(t, p, rig.Letters(), size)
		}
	}
}

// P8.6
func TestMoreOfAnInputGoesOnFromWhatCame(t *testing.T) {
	for _, input := range inputs() {
		for _, n := range []int{1, bits(0, 2), bits(15), all} {
			choices.HoldGrowth(t, of(n, ":"), input)
		}
	}
}

// P8.7: without the denotation, and without what drives by it
func TestTheFieldsByOneBitEachAreTheLine(t *testing.T) {
	for _, line := range []string{
		"", "a", "plain", ":", "::", "a:b", ":b", "a:", "a:b:c:d", "a::c", "::c", "a::", "a:\x00:\xff",
		rig.Word(64), rig.Word(32) + ":" + rig.Word(31), ":" + rig.Word(63), rig.Word(63) + ":",
		row(15, ":"), row(16, ":"), strings.Repeat(":", 14), strings.Repeat(":", 15), strings.Repeat(":", 15) + rig.Word(49),
		strings.Repeat("xyz:", 15) + "last",
	} {
		for _, a := range []string{":", "\x00", "\xff", "b"} {
			text := parted(line, a)
			if count := strings.Count(text, a) + 1; count <= 16 {
				holdOneBitEach(t, text, a, count)
			}
		}
	}
}

// holdOneBitEach holds what comes of a line of so many fields by one bit each against
// it; by a bit that it has no field for it comes to an empty line, if A is in it.
func holdOneBitEach(t *testing.T, line, a string, count int) {
	t.Helper()
	var came []string
	for place := range 16 {
		got := choices.Told(t, of(1<<place, a), line+"\n", 11)
		if place >= count && count > 1 && got != "\n" {
			t.Errorf("A %q, bit %d of %q: %q; want an empty line", a, place, line, got)
		}
		if place < count {
			came = append(came, strings.TrimSuffix(got, "\n"))
		}
	}
	if joined := strings.Join(came, a); joined != line {
		t.Errorf("A %q: the fields of %q come to %q", a, line, joined)
	}
}

// P8.2 to P8.7, of any bytes
func FuzzFields(f *testing.F) {
	f.Add(5, byte(':'), []byte("a:b:c:d\nplain"), []byte{1, 2, 3})
	f.Add(2, byte(0), []byte("a\x00b\x00\n\x00\n\n"), []byte{})
	f.Add(32768, byte(255), []byte(strings.Repeat("\xff", 15)+"x\xffy"), []byte{31, 0})
	f.Add(all, byte('a'), []byte(rig.Word(64)+"\n"+rig.Word(65)+"\n"), []byte{7})
	f.Add(0, byte(10), []byte("a\n"), []byte{})
	f.Fuzz(func(t *testing.T, n int, a byte, input, cuts []byte) {
		p := of(n, string([]byte{a}))
		if n < 1 || n > all || a == '\n' {
			if m, e := New(p); m != nil || e != api.ErrParam {
				t.Errorf("%+v: %v, %v; want ErrParam", p, m, e)
			}
			return
		}
		if len(input) > 4096 {
			return
		}
		choices.Run(t, p, string(input), rig.Sizes(cuts)...)
		for _, line := range strings.Split(string(input), "\n") {
			if count := strings.Count(line, string([]byte{a})) + 1; len(line) <= 64 && count <= 16 {
				holdOneBitEach(t, line, string([]byte{a}), count)
			}
		}
	})
}
