package number

import (
	"slices"
	"strconv"
	"strings"
	"testing"

	"penstock/api"
	"penstock/rig"
)

// greatest is the greatest N that the chapter of params allows.
const greatest = 1000000000

// numbers are what is tested, held against reckon.
var numbers = rig.Subject{New: New, Reckon: rig.OfOne(reckon)}

// of makes the parameters of a number.
func of(n int) api.Params {
	return api.Params{Kind: api.KindNumber, N: n}
}

// some are the Ns that are tried with all inputs.
func some() []int {
	return []int{0, 1, 8, 9, 98, 999, 65535, greatest - 2, greatest - 1, greatest}
}

// reckon is the denotation.
func reckon(p api.Params, in rig.Input) rig.Seen {
	next := p.N
	return rig.EachLine(in, func(line string) string {
		told := digits(next) + " " + line + "\n"
		next++
		return told
	})
}

// digits are a number's decimal digits, reckoned from the last one on.
func digits(n int) string {
	last := "0123456789"[n%10 : n%10+1]
	if n < 10 {
		return last
	}
	return digits(n/10) + last
}

// told is what lines of which all are the same come to, from one number up to another.
func told(first, last int, text string) string {
	all := ""
	for n := first; n <= last; n++ {
		all += digits(n) + " " + text + "\n"
	}
	return all
}

// ends are so many ends of lines.
func ends(count int) string { return strings.Repeat("\n", count) }

// inputs are the rig's, and such as matter to a number.
func inputs() []string {
	return append(rig.Inputs(),
		"\n\n",
		"a\n\nb\n\n\nc",
		"a\nb\n\n",
		"\na",
		"1 a\n2 b\n10 c",
		" \n  \n 1\n1 \n1 1\n\n0\n00\n-1\n+1\n",
		"9\n10\n9 10\n10 9\n99\n100",
		"\x00\n\x00\x00\n\r\n\r\r\n\xff\n\xff\xff\n\x0b\n\x00\r\xff",
		"\xc3\xa9\n\xe2\x82\xac\n\xc3\n\xd9\xa1",
		ends(32), ends(33), "a"+ends(32), ends(100)+"a",
		rig.Word(32)+"\n"+rig.Word(31)+"\n"+rig.Word(33)+"\n",
		strings.Repeat(rig.Word(64)+"\n", 3)+rig.Word(64),
		rig.Word(64)+ends(32)+"a",
		"a\n"+rig.Word(64)+"!\nb\n",
		"a\n\n"+strings.Repeat("7", 65),
		ends(40)+rig.Word(65)+"\n",
	)
}

// P11.1
func TestNewMakesAMachineOfNumbersAlone(t *testing.T) {
	for _, n := range append(some(), 2, 7, 10, 255, 256, 65536, 1<<29) {
		for _, none := range [][]byte{nil, {}} {
			p := of(n)
			p.A, p.B = none, none
			if m := numbers.Make(t, p); m.Need() != 0 || m.Held() != 0 {
				t.Errorf("%+v: Need %d, Held %d; want 0, 0", p, m.Need(), m.Held())
			}
		}
	}
}

// P11.1
func TestNewRefuses(t *testing.T) {
	var own []rig.Refusal
	refuse := func(n int, a, b []byte) {
		p := api.Params{Kind: api.KindNumber, N: n, A: a, B: b}
		own = append(own, rig.Refusal{P: p, Err: api.ErrParam})
	}
	for _, n := range []int{-1, -2, -10, greatest + 1, greatest + 2, 1 << 30, 1 << 31, 1 << 32, 1<<32 + 1, 1<<63 - 1, -1 << 31, -1 << 63} {
		refuse(n, nil, nil)
		refuse(n, []byte("a"), []byte("b"))
	}
	for _, n := range []int{0, 1, greatest} {
		for _, text := range []string{"a", "\n", "\x00", " ", "1", strings.Repeat("b", 5000)} {
			refuse(n, []byte(text), nil)
			refuse(n, nil, []byte(text))
			refuse(n, []byte(text), []byte(text))
		}
	}
	numbers.HoldNew(t, api.KindNumber, own...)
}

// P11.2
func TestTheChaptersExample(t *testing.T) {
	for _, input := range []string{"a\nb\n", "a\nb"} {
		for size := 1; size <= api.MaxChunk; size++ {
			if seen := numbers.Run(t, of(9), input, size); seen != (rig.Seen{Out: "9 a\n10 b\n", Need: api.Ended}) {
				t.Errorf("%q by %d bytes: %+v; want 9 a, 10 b", input, size, seen)
			}
		}
	}
}

// P11.2, at each step; P11.3 and P11.5, too, and P11.4's memory
func TestTheDenotationComesByAllChunks(t *testing.T) {
	for _, input := range inputs() {
		for _, n := range some() {
			numbers.HoldChunks(t, of(n), input)
		}
	}
}

// P11.2: the denotation is reckoned rightly
func TestWhatComesOfSomeInputs(t *testing.T) {
	long := rig.Word(64)
	for _, c := range []struct {
		n          int
		input, out string
	}{
		{0, "", ""},
		{9, "", ""},
		{greatest, "", ""},
		{0, "a", "0 a\n"},
		{0, "a\n", "0 a\n"},
		{1, "a", "1 a\n"},
		{1, "a\nb", "1 a\n2 b\n"},
		{1, "a\nb\n", "1 a\n2 b\n"},
		{0, "a\nb\nc", "0 a\n1 b\n2 c\n"},
		{7, "a\na\na\na\n", "7 a\n8 a\n9 a\n10 a\n"},
		{0, "\n", "0 \n"},
		{1, "\n\n", "1 \n2 \n"},
		{9, "\n\n\n", "9 \n10 \n11 \n"},
		{1, "a\n\n", "1 a\n2 \n"},
		{1, "\na", "1 \n2 a\n"},
		{1, "\na\n", "1 \n2 a\n"},
		{1, "a\n\n\nb\n\n", "1 a\n2 \n3 \n4 b\n5 \n"},
		{1, " ", "1  \n"},
		{1, " a\na \n", "1  a\n2 a \n"},
		{1, "1 a\n2 b\n", "1 1 a\n2 2 b\n"},
		{5, "1\n01\n-1\n 5\n5 ", "5 1\n6 01\n7 -1\n8  5\n9 5 \n"},
		{9, "9\n10\n10 10", "9 9\n10 10\n11 10 10\n"},
		{1, "\x00\n\x00\x00", "1 \x00\n2 \x00\x00\n"},
		{1, "a\r\n\r\n\r", "1 a\r\n2 \r\n3 \r\n"},
		{1, "\xff\n\xffa\xff\n", "1 \xff\n2 \xffa\xff\n"},
		{1, "\xc3\xa9\n\xa9\n", "1 \xc3\xa9\n2 \xa9\n"},
		{99, long, "99 " + long + "\n"},
		{99, long + "\n" + long + "\n", "99 " + long + "\n100 " + long + "\n"},
		{0, long + "\n\n" + long[1:], "0 " + long + "\n1 \n2 " + long[1:] + "\n"},
		{65535, "a\nb", "65535 a\n65536 b\n"},
		{999999, "a\nb", "999999 a\n1000000 b\n"},
		{123456789, "a\n\nb", "123456789 a\n123456790 \n123456791 b\n"},
		{999999998, "a\nb\nc", "999999998 a\n999999999 b\n1000000000 c\n"},
		{999999999, "a\nb\nc\n", "999999999 a\n1000000000 b\n1000000001 c\n"},
		{greatest, "a", "1000000000 a\n"},
		{greatest, "a\nb\n\nc", "1000000000 a\n1000000001 b\n1000000002 \n1000000003 c\n"},
		{greatest, "\n" + long, "1000000000 \n1000000001 " + long + "\n"},
	} {
		for _, size := range []int{1, 5, 32} {
			if seen := numbers.Run(t, of(c.n), c.input, size); seen != (rig.Seen{Out: c.out, Need: api.Ended}) {
				t.Errorf("N %d of %q, by %d bytes: %+v; want %q", c.n, c.input, size, seen, c.out)
			}
		}
	}
}

// P11.2: these numbers, letter by letter, in one chunk and in several
func TestNumbersGetOneDigitMore(t *testing.T) {
	for _, c := range []struct {
		n   int
		out string
	}{
		{8, "8 x\n9 x\n10 x\n11 x\n"},
		{9, "9 x\n10 x\n11 x\n12 x\n"},
		{10, "10 x\n11 x\n12 x\n13 x\n"},
		{98, "98 x\n99 x\n100 x\n101 x\n"},
		{99, "99 x\n100 x\n101 x\n102 x\n"},
		{100, "100 x\n101 x\n102 x\n103 x\n"},
		{109, "109 x\n110 x\n111 x\n112 x\n"},
		{199, "199 x\n200 x\n201 x\n202 x\n"},
		{998, "998 x\n999 x\n1000 x\n1001 x\n"},
		{999, "999 x\n1000 x\n1001 x\n1002 x\n"},
		{9999, "9999 x\n10000 x\n10001 x\n10002 x\n"},
		{99999, "99999 x\n100000 x\n100001 x\n100002 x\n"},
		{9999999, "9999999 x\n10000000 x\n10000001 x\n10000002 x\n"},
		{99999999, "99999999 x\n100000000 x\n100000001 x\n100000002 x\n"},
		{999999998, "999999998 x\n999999999 x\n1000000000 x\n1000000001 x\n"},
		{999999999, "999999999 x\n1000000000 x\n1000000001 x\n1000000002 x\n"},
		{greatest, "1000000000 x\n1000000001 x\n1000000002 x\n1000000003 x\n"},
	} {
		for _, input := range []string{"x\nx\nx\nx\n", "x\nx\nx\nx"} {
			for _, size := range []int{1, 2, 3, 32} {
				if got := numbers.Told(t, of(c.n), input, size); got != c.out {
					t.Errorf("N %d of %q by %d bytes: %q; want %q", c.n, input, size, got, c.out)
				}
			}
		}
	}
}

// P11.2: each N by itself, with the line behind it
func TestEachNIsTheFirstLinesNumber(t *testing.T) {
	ns := []int{12345, 65534, 99998, 100000, 1234567, 1<<24 - 1, 1 << 28, greatest - 1000}
	for n := range 1200 {
		ns = append(ns, n)
	}
	for digit := 1; digit <= greatest; digit *= 10 {
		for times := 1; times <= 9 && digit*times <= greatest; times++ {
			ns = append(ns, digit*times, digit*times-1)
		}
	}
	for _, n := range ns {
		for _, text := range []string{"", "a", "5", " "} {
			if got := numbers.Told(t, of(n), text+"\n"+text+"\n", 3); got != told(n, n+1, text) {
				t.Fatalf("N %d of twice %q: %q; want %q", n, text, got, told(n, n+1, text))
			}
		}
	}
}

// P11.2: many lines of one input
func TestNumbersGoOnAsLongAsLinesCome(t *testing.T) {
	for _, n := range []int{0, 1, 8999, 9990, 999999000, greatest} {
		for _, text := range []string{"", "abc"} {
			input, want := strings.Repeat(text+"\n", 2100), told(n, n+2099, text)
			for _, size := range []int{1, 7, 32} {
				if got := numbers.Told(t, of(n), input, size); got != want {
					t.Fatalf("N %d of 2100 times %q, by %d bytes: %q", n, text, size, got)
				}
			}
		}
	}
}

// P11.2: by whatever byte but an end of a line, told as it came
func TestEachByteStandsInALine(t *testing.T) {
	for c := range 256 {
		if c == '\n' {
			continue
		}
		text := string([]byte{byte(c)})
		for _, line := range []string{text, text + text, "a" + text + "b", text + " " + text} {
			if got := numbers.Told(t, of(9), line+"\n"+line, 2); got != told(9, 10, line) {
				t.Errorf("twice %q: %q", line, got)
			}
		}
	}
}

// P11.2: all that can be said of a chunk is said with it, up to 32 lines
func TestAChunkOfEndsComesToOneAnswer(t *testing.T) {
	long := rig.Word(64)
	for _, n := range some() {
		for count := 1; count <= api.MaxChunk; count++ {
			d := numbers.Drive(t, of(n))
			d.Feed(ends(count))
			if want := []string{told(n, n+count-1, "")}; !slices.Equal(d.Answers, want) {
				t.Errorf("N %d of %d ends of lines: %q; want %q", n, count, d.Answers, want)
			}
			d.Feed(long[:32])
			d.Feed(long[32:])
			d.Feed(ends(count))
			want := []string{told(n, n+count-1, ""), told(n+count, n+count, long) + told(n+count+1, n+2*count-1, "")}
			if !slices.Equal(d.Answers, want) || d.Seen.Need != 0 || d.Seen.Held != 0 {
				t.Errorf("N %d of %d, 64 bytes, and as many: %q, %+v; want %q", n, count, d.Answers, d.Seen, want)
			}
		}
	}
}

// P11.2 and P11.3: a line is told by the chunk that ends it; what is begun is held
func TestALineIsToldByTheChunkThatEndsIt(t *testing.T) {
	long := rig.Word(64)
	m := numbers.Make(t, of(8))
	for _, c := range []struct {
		chunk, out string
		held       int
	}{
		{"a", "", 1},
		{"b", "", 2},
		{"c", "", 3},
		{"\n", "8 abc\n", 0},
		{"\n", "9 \n", 0},
		{"x\n10 y\n\nz", "10 x\n11 10 y\n12 \n", 1},
		{"z\n\n ", "13 zz\n14 \n", 1},
		{"\n", "15  \n", 0},
		{"\x00\xff\r", "", 3},
		{"\n", "16 \x00\xff\r\n", 0},
		{long[:32], "", 32},
		{long[32:63], "", 63},
		{long[63:], "", 64},
		{"\n", "17 " + long + "\n", 0},
		{ends(32), told(18, 49, ""), 0},
		{ends(31) + "a", told(50, 80, ""), 1},
		{ends(32), "81 a\n" + told(82, 112, ""), 0},
		{rig.Word(31) + "\n", "113 " + rig.Word(31) + "\n", 0},
		{"last", "", 4},
	} {
		rig.Take(t, m, c.chunk, c.out, c.held)
	}
	outs, e := m.End(0)
	if rig.Text(outs) != "114 last\n" || e != api.OK || m.Need() != api.Ended || m.Held() != 0 {
		t.Errorf("End: %+v, %v, Need %d, Held %d; want 114 last", outs, e, m.Need(), m.Held())
	}
}

// P11.2: an end behind a line's end tells nothing, nor does that of no byte
func TestEndTellsALastLineWithoutItsEndAlone(t *testing.T) {
	for _, c := range []struct{ input, out string }{
		{"", ""},
		{"\n", ""},
		{"a\n", ""},
		{"a\n\n", ""},
		{rig.Word(31) + "\n", ""},
		{ends(32), ""},
		{"a", "9 a\n"},
		{" ", "9  \n"},
		{"\x00", "9 \x00\n"},
		{"\r", "9 \r\n"},
		{"9", "9 9\n"},
		{"a\nb", "10 b\n"},
		{"\n\nb", "11 b\n"},
		{ends(31) + "b", "40 b\n"},
	} {
		m := numbers.Make(t, of(9))
		if c.input != "" {
			m.Feed(0, []byte(c.input))
		}
		outs, e := m.End(0)
		if rig.Text(outs) != c.out || c.out == "" && len(outs) != 0 || e != api.OK || m.Need() != api.Ended || m.Held() != 0 {
			t.Errorf("the end of %q: %+v, %v, Need %d, Held %d; want %q", c.input, outs, e, m.Need(), m.Held(), c.out)
		}
	}
}

// P11.2: an input that has not ended is read on; that it fails is no call of the machine
func TestAnInputThatDoesNotEndIsReadOn(t *testing.T) {
	d := numbers.Drive(t, of(1))
	want := ""
	for i := range 200 {
		d.Feed("ab\n\nc")
		d.Feed("d\ne")
		want += digits(4*i+1) + " ab\n" + digits(4*i+2) + " \n" + digits(4*i+3) + " cd\n"
		if d.Seen != (rig.Seen{Out: want, Held: 1}) {
			t.Fatalf("%+v; want a line that is not told yet", d.Seen)
		}
		d.Feed("\n")
		want += digits(4*i+4) + " e\n"
	}
	if d.Seen != (rig.Seen{Out: want}) {
		t.Errorf("%+v; want one that reads on", d.Seen)
	}
	d.Feed("f")
	d.End()
	if d.Seen != (rig.Seen{Out: want + "801 f\n", Need: api.Ended}) {
		t.Errorf("behind the end: %+v", d.Seen)
	}
}

// P11.2 and P11.5: what was told ahead of a line that is too long, and nothing behind it
func TestTheLongLineFails(t *testing.T) {
	for _, ahead := range []struct{ input, out string }{
		{"", ""},
		{"\n", "9 \n"},
		{"a\nb\n", "9 a\n10 b\n"},
		{rig.Word(64) + "\n", "9 " + rig.Word(64) + "\n"},
		{ends(32), told(9, 40, "")},
	} {
		for _, long := range []string{rig.Word(65), strings.Repeat("1", 65), strings.Repeat(" ", 65), strings.Repeat("\x00", 66), rig.Word(200)} {
			for _, behind := range []string{"", "\n", "\na\nb\n"} {
				for size := 1; size <= api.MaxChunk; size++ {
					input := ahead.input + long + behind
					seen := numbers.Run(t, of(9), input, size)
					if seen.Out != ahead.out || seen.Need != api.Ended || seen.Err != api.ErrLong {
						t.Errorf("%q by %d bytes: %+v; want %q, ErrLong", input, size, seen, ahead.out)
					}
				}
			}
		}
	}
}

// P11.2 and P11.4: the number that stands ahead of a line makes it no longer
func TestTheLongLineFailsByItsByte(t *testing.T) {
	for _, n := range []int{0, 9, greatest} {
		for _, last := range []string{"!", "!\nb\n", " ", "1"} {
			d := numbers.Drive(t, of(n))
			d.Feed("a\n\n" + rig.Word(26))
			d.Feed(rig.Word(32))
			d.Feed("uvwxyz")
			out := digits(n) + " a\n" + digits(n+1) + " \n"
			if d.Seen != (rig.Seen{Out: out, Held: 64}) {
				t.Fatalf("N %d, 64 bytes: %+v", n, d.Seen)
			}
			d.Feed(last)
			if d.Seen.Out != out || d.Seen.Need != api.Ended || d.Seen.Err != api.ErrLong {
				t.Errorf("N %d, one more: %+v; want ErrLong", n, d.Seen)
			}
			d.Pester()
		}
	}
}

// P11.3: neither the number nor the lines that were told are held
func TestHeldIsTheLineThatIsBegun(t *testing.T) {
	for _, n := range some() {
		m := numbers.Make(t, of(n))
		for at := range 3 {
			for begun := range 64 {
				rig.Take(t, m, "x", "", begun+1)
			}
			rig.Take(t, m, "\n", told(n+2*at, n+2*at, strings.Repeat("x", 64)), 0)
			rig.Take(t, m, "\n", told(n+2*at+1, n+2*at+1, ""), 0)
		}
		rig.Take(t, m, "rest", "", 4)
		if m.End(0); m.Held() != 0 {
			t.Errorf("N %d: Held %d behind the end", n, m.Held())
		}
	}
}

// P11.4
func TestChunksOfMaxChunkBytesAreTakenAndNoGreaterOnes(t *testing.T) {
	numbers.HoldChunkLimits(t, of(0), of(1), of(9), of(greatest))
}

// P11.4: ahead of each step, behind the end, and behind a line that is too long
func TestRefusalsChangeNothing(t *testing.T) {
	for _, input := range inputs() {
		for _, n := range []int{0, 9, 99, greatest} {
			numbers.HoldRefusals(t, of(n), input)
		}
	}
}

// P11.4: one by one, each with the next line's number behind it
func TestWhatIsRefusedIsNotNumbered(t *testing.T) {
	for _, call := range rig.UndueCalls() {
		m := numbers.Make(t, of(9))
		for _, c := range []struct {
			chunk, out string
			held       int
		}{{"a", "", 1}, {"\nb", "9 a\n", 1}, {"\n", "10 b\n", 0}, {"c\n\n", "11 c\n12 \n", 0}} {
			rig.HoldUndue(t, m, call)
			rig.Take(t, m, c.chunk, c.out, c.held)
		}
		rig.Take(t, m, "d", "", 1)
		call.Make(m)
		if outs, e := m.End(0); rig.Text(outs) != "13 d\n" || e != api.OK {
			t.Errorf("%s, ahead of the end: %+v, %v; want 13 d", call.Name, outs, e)
		}
		rig.HoldDone(t, m, call)
	}
}

// P11.4: behind the end, and behind a line that is too long, whatever is called
func TestBehindTheEndNothingIsTold(t *testing.T) {
	for _, input := range []string{"", "a", "a\n", rig.Word(65), "a\n" + rig.Word(65) + "\n"} {
		m := numbers.Make(t, of(1))
		for len(input) > 0 {
			n := min(api.MaxChunk, len(input))
			m.Feed(0, []byte(input[:n]))
			input = input[n:]
		}
		m.End(0)
		calls := append(rig.UndueCalls(),
			rig.Call{Name: "End", Make: func(m api.Machine) ([]api.Out, api.Errno) { return m.End(0) }},
			rig.Call{Name: "Feed of a line", Make: func(m api.Machine) ([]api.Out, api.Errno) { return m.Feed(0, []byte("a\n")) }},
			rig.Call{Name: "Feed of a byte", Make: func(m api.Machine) ([]api.Out, api.Errno) { return m.Feed(0, []byte("a")) }},
		)
		for _, call := range append(calls, calls...) {
			rig.HoldDone(t, m, call)
		}
	}
}

// P11.4: each counts by itself, also of one N, and of machines made between
func TestMachinesShareNothing(t *testing.T) {
	one, other := numbers.Drive(t, of(9)), numbers.Drive(t, of(9))
	for _, chunk := range []string{"a", "b\nc", "\nd", "d\ne"} {
		one.Feed(chunk)
		other.Feed(strings.ToUpper(chunk) + "\n")
	}
	third := numbers.Drive(t, of(9))
	for _, d := range []*rig.Driver{third, other, one} {
		d.Feed("z")
		d.End()
	}
	if one.Seen.Out != "9 ab\n10 c\n11 dd\n12 ez\n" {
		t.Errorf("the one: %q", one.Seen.Out)
	}
	if other.Seen.Out != "9 A\n10 B\n11 C\n12 \n13 D\n14 D\n15 E\n16 z\n" {
		t.Errorf("the other: %q", other.Seen.Out)
	}
	if third.Seen.Out != "9 z\n" {
		t.Errorf("the third: %q", third.Seen.Out)
	}
}

// P11.4: what is written over a chunk behind Feed plays no part
func TestChunksAreNeitherKeptNorChanged(t *testing.T) {
	m := numbers.Make(t, of(1))
	chunk := make([]byte, 4)
	for _, c := range []struct {
		chunk, out string
		held       int
	}{{"a\nbc", "1 a\n", 2}, {"defg", "", 6}, {"h\n\nx", "2 bcdefgh\n3 \n", 1}} {
		copy(chunk, c.chunk)
		outs, e := m.Feed(0, chunk)
		if string(chunk) != c.chunk {
			t.Errorf("%q is %q behind Feed", c.chunk, chunk)
		}
		copy(chunk, "\n!\n!")
		if rig.Text(outs) != c.out || e != api.OK || m.Held() != c.held {
			t.Errorf("%q: %+v, %v, Held %d; want %q", c.chunk, outs, e, m.Held(), c.out)
		}
	}
	if outs, _ := m.End(0); rig.Text(outs) != "4 x\n" {
		t.Errorf("the end: %+v; want 4 x", outs)
	}
}

// P11.4: answers that are kept stay as they are, whatever comes behind them
func TestAnswersAreNewMemory(t *testing.T) {
	for _, size := range []int{1, 2, 3, 5, 32} {
		for _, n := range some() {
			numbers.HoldAnswers(t, of(n), rig.Letters(), size)
			numbers.HoldAnswers(t, of(n), ends(70), size)
		}
	}
}

// P11.4: no two answers, nor two parts of one, share memory
func TestPartsOfAnswersShareNothing(t *testing.T) {
	m := numbers.Make(t, of(9))
	var kept []api.Out
	for range 3 {
		outs, _ := m.Feed(0, []byte("a\na\na\na\n"))
		kept = append(kept, outs...)
	}
	rig.HoldApart(t, kept...)
	if outs, _ := m.Feed(0, []byte("b\n")); rig.Text(outs) != "21 b\n" {
		t.Errorf("%+v; want 21 b", outs)
	}
}

// P11.6
func TestMoreOfAnInputGoesOnFromWhatCame(t *testing.T) {
	for _, input := range inputs() {
		for _, n := range []int{0, 1, 9, 999, greatest - 1, greatest} {
			numbers.HoldGrowth(t, of(n), input)
		}
	}
}

// P11.7: without the denotation, and without what drives by it
func TestWithoutTheirNumbersTheyAreTheInputsLines(t *testing.T) {
	for _, input := range inputs() {
		if rig.HasTooLong(input) {
			continue
		}
		for _, n := range append(some(), 99, 12345) {
			for _, size := range []int{1, 3, 32} {
				holdNumbered(t, n, input, numbers.Told(t, of(n), input, size))
			}
		}
	}
}

// P11.7: of all inputs of a few bytes
func TestSmallInputsAreNumbered(t *testing.T) {
	for _, input := range rig.SmallInputs(7) {
		for _, n := range []int{0, 1, 8, 9, 97, greatest} {
			holdNumbered(t, n, input, numbers.Told(t, of(n), input, 2))
		}
	}
}

// holdNumbered holds what came of an input against that: lines whose numbers rise by
// one, from N on, and which are the input's without them.
func holdNumbered(t *testing.T, n int, input, out string) {
	t.Helper()
	without := ""
	for _, line := range strings.SplitAfter(out, "\n") {
		if line == "" {
			continue
		}
		number, text, _ := strings.Cut(line, " ")
		value, err := strconv.Atoi(number)
		if err != nil || value != n || strconv.Itoa(value) != number {
			t.Fatalf("%q comes to %q; want number %d", input, line, n)
		}
		without += text
		n++
	}
	if without != rig.LastEnded(input) {
		t.Errorf("%q comes to %q, without numbers %q", input, out, without)
	}
}

// P11.2 to P11.7, of any bytes
func FuzzNumber(f *testing.F) {
	f.Add(uint32(9), []byte("a\nb"), []byte{1, 2, 3})
	f.Add(uint32(0), []byte(""), []byte{})
	f.Add(uint32(greatest), []byte(ends(40)+"1 a"), []byte{31, 0})
	f.Add(uint32(97), []byte(rig.Word(64)+"\n"+rig.Word(65)+"\n"), []byte{7})
	f.Fuzz(func(t *testing.T, first uint32, input, cuts []byte) {
		if len(input) > 4096 {
			return
		}
		n, text := int(first%(greatest+1)), string(input)
		if seen := numbers.Run(t, of(n), text, rig.Sizes(cuts)...); seen.Err == api.OK {
			holdNumbered(t, n, text, seen.Out)
		}
	})
}
