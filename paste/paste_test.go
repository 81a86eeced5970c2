package paste

import (
	"slices"
	"strings"
	"testing"

	"penstock/api"
	"penstock/params"
	"penstock/rig"
)

// pastes are what is tested, held against reckon.
var pastes = rig.Subject{New: New, Reckon: reckon}

// of makes the parameters of a paste of n inputs, parted by a comma.
func of(n int) api.Params { return by(n, ',') }

// by makes the parameters of a paste of n inputs, parted by this byte.
func by(n int, a byte) api.Params {
	return api.Params{Kind: api.KindPaste, N: n, A: []byte{a}}
}

// What a field of an input comes to.
const (
	notYet = iota
	there
	none
	tooLong
)

// field is what an input gives for its field of this row.
func field(in rig.Input, row int) (string, int) {
	all := strings.SplitAfter(in.Text, "\n")
	if row >= len(all) {
		row, all = 0, []string{""}
	}
	text, whole := strings.CutSuffix(all[row], "\n")
	switch {
	case len(text) > api.MaxLine:
		return "", tooLong
	case whole || in.Ended && text != "":
		return text, there
	case in.Ended:
		return "", none
	}
	return "", notYet
}

// reckon is the denotation. What is held is what came of lines and is not told, and what
// parts the fields of the row that is begun.
func reckon(p api.Params, ins []rig.Input) rig.Seen {
	out, held := "", 0
	for _, in := range ins {
		held += len(in.Text) - strings.Count(in.Text, "\n")
	}
	for row := 0; ; row++ {
		var fields []string
		given := false
		for i, in := range ins {
			text, what := field(in, row)
			switch what {
			case tooLong:
				return rig.Seen{Out: out, Need: api.Ended, Err: api.ErrLong}
			case notYet:
				return rig.Seen{Out: out, Need: i, Held: held + max(0, len(fields)-1)}
			}
			fields = append(fields, text)
			given = given || what == there
		}
		if !given {
			return rig.Seen{Out: out, Need: api.Ended, Held: held}
		}
		out += strings.Join(fields, string(p.A)) + "\n"
		held -= len(strings.Join(fields, ""))
	}
}

// lists are lists of inputs, of one as of four.
func lists() [][]string {
	long, most := rig.Word(65), rig.Word(64)
	return [][]string{
		{""}, {"a"}, {"\n"}, {"a\nb"}, {"a\n\nb\n"}, {rig.Letters()}, {most + "\n" + most}, {"a\n" + long}, {strings.Repeat("\n", 70)},
		{"", ""}, {"", "a"}, {"a", ""}, {"a\nb\n", "x\n"}, {"x\n", "a\nb\n"}, {"a\n", "\n"}, {"\n", "\n"}, {"\n", "\n\n"},
		{"a\nb\nc", "d\ne\nf"}, {"a,b\n,", ",,\n\n,"}, {most, most + "\n"}, {most + "\n" + most, "\n" + most + "\n"},
		{"\x00\n\r\xff\n", "\xff\r\n\x00\x00"}, {strings.Repeat("\n", 40), strings.Repeat("a\n", 20)},
		{long, "a\n"}, {"a\n", long}, {"a\nb\n", "x\n" + long + "\n"}, {"a\n", "b\nc\n" + long}, {"a\n" + long, "b\n"}, {"", "a\n\n" + long},
		{"", "", ""}, {"a\n", "", ""}, {"", "a\n", ""}, {"", "", "a\n"}, {"a\nb\nc", "d", "e\nf\n"}, {"a", "b\nc\nd", "e\nf"},
		{"\n\n", "\n", "\n\n\n"}, {"a\n", "b\n", "c\nd\ne\n" + long}, {long, long, long}, {"a\n" + most, most + "\n" + long, most},
		{"", "", "", ""}, {"a", "", "", ""}, {"", "", "", "a"}, {"", "a\nb", "", "c\nd\ne"}, {"a\nb\n", "c\nd\n", "e\nf\n", "g\nh\n"},
		{"d", "c", "b", "a"}, {"\n", "\n\n", "\n\n\n", "\x00"}, {"a\nb\nc", "", "d\n\ne\n", "f"}, {most + "\n\n", most + "\n\n", most + "\n\n", most + "\n"},
		{strings.Repeat("\n", 33), strings.Repeat("\n", 31), strings.Repeat("\n", 32), strings.Repeat("\n", 34)}, {"a\n\n", "b\n", "c\n", "\n" + long},
	}
}

// P13.1
func TestNewMakesAMachineOfPastesAlone(t *testing.T) {
	for n := 1; n <= api.MaxPorts; n++ {
		for c := range 256 {
			for _, b := range [][]byte{nil, {}} {
				p := by(n, byte(c))
				p.B = b
				if c == 10 {
					if m, e := New(p); m != nil || e != api.ErrParam {
						t.Errorf("A 10: %v, %v; want none, ErrParam", m, e)
					}
				} else if m := pastes.Make(t, p); m.Need() != 0 || m.Held() != 0 {
					t.Errorf("%+v: Need %d, Held %d; want 0, 0", p, m.Need(), m.Held())
				}
			}
		}
	}
}

// P13.1
func TestNewRefuses(t *testing.T) {
	var own []rig.Refusal
	for _, n := range []int{0, -1, 5, 6, 100, 1 << 32, 1<<32 + 1, -1 << 63, 1<<63 - 1} {
		own = append(own, rig.Refusal{P: of(n), Err: api.ErrParam})
	}
	for _, a := range [][]byte{nil, {}, []byte(",,"), []byte(",:"), {10}, {10, 10}, make([]byte, 100)} {
		own = append(own, rig.Refusal{P: api.Params{Kind: api.KindPaste, N: 2, A: a}, Err: api.ErrParam})
	}
	for _, b := range [][]byte{{0}, {10}, []byte(",")} {
		own = append(own, rig.Refusal{P: api.Params{Kind: api.KindPaste, N: 2, A: []byte(","), B: b}, Err: api.ErrParam})
	}
	pastes.HoldNew(t, api.KindPaste, own...)
}

// P13.2: the chapter's example, and that of the whole
func TestTheExamples(t *testing.T) {
	for size := 1; size <= api.MaxChunk; size++ {
		for _, c := range []struct {
			first, second, out string
		}{
			{"a\nb\n", "x\n", "a,x\nb,\n"},
			{"a\nb\n", "x", "a,x\nb,\n"},
			{"a\nb\n", "a\nb\n", "a,a\nb,b\n"},
		} {
			if seen := pastes.RunOf(t, of(2), rig.Whole(c.first, c.second), size); seen != (rig.Seen{Out: c.out, Need: api.Ended}) {
				t.Errorf("%q, %q by %d bytes: %+v; want %q", c.first, c.second, size, seen, c.out)
			}
		}
	}
}

// P13.2, at each step; P13.3 and P13.5, too, and P13.4's memory
func TestTheDenotationComesByAllChunks(t *testing.T) {
	for _, texts := range lists() {
		for _, ins := range rig.Endings(texts...) {
			pastes.HoldChunksOf(t, of(len(ins)), ins)
		}
	}
}

// P13.2: the denotation is reckoned rightly
func TestWhatComesOfSomeInputs(t *testing.T) {
	most := rig.Word(64)
	for _, c := range []struct {
		inputs []string
		out    string
	}{
		{[]string{""}, ""},
		{[]string{"\n"}, "\n"},
		{[]string{"\n\n"}, "\n\n"},
		{[]string{"a"}, "a\n"},
		{[]string{"a\n"}, "a\n"},
		{[]string{"a\n\nb"}, "a\n\nb\n"},
		{[]string{",a,"}, ",a,\n"},
		{[]string{"", ""}, ""},
		{[]string{"", "a"}, ",a\n"},
		{[]string{"a", ""}, "a,\n"},
		{[]string{"a", "b"}, "a,b\n"},
		{[]string{"a\n", "b\n"}, "a,b\n"},
		{[]string{"\n", "\n"}, ",\n"},
		{[]string{"\n", ""}, ",\n"},
		{[]string{"", "\n"}, ",\n"},
		{[]string{"\n\n\n", "\n"}, ",\n,\n,\n"},
		{[]string{"a\nb\nc\n", "x\n"}, "a,x\nb,\nc,\n"},
		{[]string{"a\n", "x\ny\nz"}, "a,x\n,y\n,z\n"},
		{[]string{"a\n\nc\n", "\ny\n\n"}, "a,\n,y\nc,\n"},
		{[]string{"a,b\n", ",\n"}, "a,b,,\n"},
		{[]string{most, most}, most + "," + most + "\n"},
		{[]string{"\x00\n\r", "\xff\r\n"}, "\x00,\xff\r\n\r,\n"},
		{[]string{"", "", ""}, ""},
		{[]string{"", "b", ""}, ",b,\n"},
		{[]string{"a", "", "c"}, "a,,c\n"},
		{[]string{"a\n", "b\nc\n", "d\ne\nf\n"}, "a,b,d\n,c,e\n,,f\n"},
		{[]string{"", "", "", ""}, ""},
		{[]string{"", "", "", "d"}, ",,,d\n"},
		{[]string{"", "", "", "\n\n"}, ",,,\n,,,\n"},
		{[]string{"a", "", "", ""}, "a,,,\n"},
		{[]string{"", "b", "", "d\ne"}, ",b,,d\n,,,e\n"},
		{[]string{"a", "b", "c", "d"}, "a,b,c,d\n"},
		{[]string{"a\nb\nc", "", "d\n\ne\n", "f"}, "a,,d,f\nb,,,\nc,,e,\n"},
		{[]string{most, most, most, most}, most + "," + most + "," + most + "," + most + "\n"},
	} {
		want := rig.Seen{Out: c.out, Need: api.Ended}
		for _, size := range []int{1, 5, 32} {
			if seen := pastes.RunOf(t, of(len(c.inputs)), rig.Whole(c.inputs...), size); seen != want {
				t.Errorf("%q, by %d bytes: %+v; want %+v", c.inputs, size, seen, want)
			}
		}
	}
}

// P13.2: of an input that has not ended, or has failed, and of what others told already
func TestAnInputThatHasNotEndedStopsWhatComes(t *testing.T) {
	for _, c := range []struct {
		ins  []rig.Input
		out  string
		need int
	}{
		{[]rig.Input{rig.Begun("")}, "", 0},
		{[]rig.Input{rig.Begun("a")}, "", 0},
		{[]rig.Input{rig.Begun("a\nb")}, "a\n", 0},
		{[]rig.Input{rig.Begun("a\nb\n")}, "a\nb\n", 0},
		{[]rig.Input{rig.Begun(""), rig.Ended("x\ny\n")}, "", 0},
		{[]rig.Input{rig.Begun("a"), rig.Ended("x\ny\n")}, "", 0},
		{[]rig.Input{rig.Begun("a\n"), rig.Ended("x\ny\n")}, "a,x\n", 0},
		{[]rig.Input{rig.Begun("a\nb"), rig.Ended("x")}, "a,x\n", 0},
		{[]rig.Input{rig.Begun("a\nb\nc\n"), rig.Ended("x\ny\n")}, "a,x\nb,y\nc,\n", 0},
		{[]rig.Input{rig.Ended("a\nb"), rig.Begun("")}, "", 1},
		{[]rig.Input{rig.Ended("a\nb"), rig.Begun("x")}, "", 1},
		{[]rig.Input{rig.Ended("a\nb"), rig.Begun("x\n")}, "a,x\n", 1},
		{[]rig.Input{rig.Ended("a\nb"), rig.Begun("x\ny\n")}, "a,x\nb,y\n", 1},
		{[]rig.Input{rig.Ended(""), rig.Begun("\n\n")}, ",\n,\n", 1},
		{[]rig.Input{rig.Begun("a\n"), rig.Begun("x\n")}, "a,x\n", 0},
		{[]rig.Input{rig.Begun("a\nb\n"), rig.Begun("x\ny")}, "a,x\n", 1},
		{[]rig.Input{rig.Begun("a\nb"), rig.Ended("x"), rig.Ended("1")}, "a,x,1\n", 0},
		{[]rig.Input{rig.Ended("a\nb"), rig.Begun("x"), rig.Ended("1")}, "", 1},
		{[]rig.Input{rig.Ended("a\nb"), rig.Begun("x\n"), rig.Ended("1")}, "a,x,1\n", 1},
		{[]rig.Input{rig.Ended("a\nb"), rig.Ended("x"), rig.Begun("1\n2\n3\n4")}, "a,x,1\nb,,2\n,,3\n", 2},
		{[]rig.Input{rig.Ended("a"), rig.Begun("x\n"), rig.Begun("")}, "", 2},
		{[]rig.Input{rig.Begun("a"), rig.Ended("b"), rig.Ended("c"), rig.Ended("d")}, "", 0},
		{[]rig.Input{rig.Ended("a"), rig.Begun("b\n"), rig.Ended("c"), rig.Ended("d")}, "a,b,c,d\n", 1},
		{[]rig.Input{rig.Ended("a"), rig.Ended("b"), rig.Begun("c\n"), rig.Ended("d")}, "a,b,c,d\n", 2},
		{[]rig.Input{rig.Ended("a"), rig.Ended("b"), rig.Ended("c"), rig.Begun("d\n")}, "a,b,c,d\n", 3},
		{[]rig.Input{rig.Ended(""), rig.Ended(""), rig.Ended(""), rig.Begun("")}, "", 3},
	} {
		for _, size := range []int{1, 2, 32} {
			seen := pastes.RunOf(t, of(len(c.ins)), c.ins, size)
			if seen.Held = 0; seen != (rig.Seen{Out: c.out, Need: c.need}) {
				t.Errorf("%v, by %d bytes: %+v; want %q, Need %d", c.ins, size, seen, c.out, c.need)
			}
		}
	}
}

// P13.2: an input is read only while its field is wanted, and no whole line of it waits
func TestInputsAreReadAsTheirFieldsAreWanted(t *testing.T) {
	rig.HoldSteps(t, pastes.Make(t, of(2)),
		rig.Behind("a", "", 0, 1), rig.Behind("b\nc", "", 1, 3), rig.Behind("x", "", 1, 4),
		rig.Behind("\n", "ab,x\n", 0, 1), rig.Behind("d", "", 0, 2), rig.Behind("\n", "", 1, 2),
		rig.Behind("y\nz\n\n", "cd,y\n", 0, 1), rig.Behind("e\nf\ng\nh", "e,z\nf,\n", 1, 2),
		rig.Behind(rig.End, "g,\n", 0, 1), rig.Behind(rig.End, "h,\n", api.Ended, 0))
	rig.HoldSteps(t, pastes.Make(t, of(3)),
		rig.Behind("1\n2\n3\n", "", 1, 3), rig.Behind(rig.End, "", 2, 4), rig.Behind("a\nb\nc\nd\n", "1,,a\n2,,b\n3,,c\n", 0, 1),
		rig.Behind("4", "", 0, 2), rig.Behind(rig.End, "4,,d\n", 2, 1), rig.Behind("\n", ",,\n", 2, 1), rig.Behind(rig.End, "", api.Ended, 0))
	rig.HoldSteps(t, pastes.Make(t, of(4)),
		rig.Behind(rig.End, "", 1, 0), rig.Behind("b\n", "", 2, 2), rig.Behind("\n", "", 3, 3), rig.Behind("d\ne\n", ",b,,d\n", 1, 1),
		rig.Behind(rig.End, "", 2, 2), rig.Behind(rig.End, ",,,e\n", 3, 2), rig.Behind("f", "", 3, 3), rig.Behind(rig.End, ",,,f\n", api.Ended, 0))
	rig.HoldSteps(t, pastes.Make(t, of(1)),
		rig.Behind("\n\na", "\n\n", 0, 1), rig.Behind("b\nc\n", "ab\nc\n", 0, 0), rig.Behind(rig.End, "", api.Ended, 0))
}

// P13.2: a line that waits is told before its input is read again
func TestSeveralLinesInOneChunkWaitTillTheyAreTold(t *testing.T) {
	m := pastes.Make(t, of(2))
	rig.HoldSteps(t, m, rig.Behind(strings.Repeat("a\n", 16), "", 1, 16))
	for left := 15; left > 0; left-- {
		rig.HoldSteps(t, m, rig.Behind("x", "", 1, left+2), rig.Behind("\n", "a,x\n", 1, left))
	}
	rig.HoldSteps(t, m, rig.Behind("\n", "a,\n", 0, 0))
}

// P13.2: nobody asks for an input from which nothing is wanted yet
func TestAnInputFromWhichNothingIsWantedHoldsUpNothing(t *testing.T) {
	m := pastes.Make(t, of(3))
	for range 50 {
		rig.HoldSteps(t, m, rig.Behind("a\n", "", 1, 1), rig.Behind("b\n", "", 2, 3), rig.Behind("c\n", "a,b,c\n", 0, 0))
	}
	rig.HoldSteps(t, m, rig.Behind("a", "", 0, 1), rig.Behind(rig.End, "", 1, 1), rig.Behind(rig.End, "", 2, 2), rig.Behind("\n", "a,,\n", 2, 1), rig.Behind(rig.End, "", api.Ended, 0))
}

// P13.2: there is no row for which no input gives a line
func TestWithoutALineThereIsNoRow(t *testing.T) {
	for n := 1; n <= api.MaxPorts; n++ {
		for _, chunk := range []string{"", "\n", "a\n"} {
			m := pastes.Make(t, of(n))
			told := ""
			for port := 0; chunk != "" && port < n; port++ {
				outs, _ := m.Feed(port, []byte(chunk))
				told += rig.Text(outs)
			}
			row := strings.Repeat(strings.TrimSuffix(chunk, "\n")+",", n)
			if want := strings.TrimSuffix(row, ",") + "\n"; chunk != "" && told != want {
				t.Errorf("N %d: %q; want %q", n, told, want)
			}
			for port := range n {
				if m.Need() != port {
					t.Fatalf("N %d: Need %d; want %d", n, m.Need(), port)
				}
				if outs, e := m.End(port); outs != nil || e != api.OK {
					t.Errorf("N %d, the end of input %d: %+v, %v; want nothing", n, port, outs, e)
				}
			}
			if m.Need() != api.Ended || m.Held() != 0 {
				t.Errorf("N %d, behind all ends: Need %d, Held %d; want Ended, 0", n, m.Need(), m.Held())
			}
		}
	}
}

// P13.2: fields are parted by A, whichever byte that is, and whatever stands in them
func TestEachByteMayPart(t *testing.T) {
	for c := range 256 {
		if c == 10 {
			continue
		}
		a := string([]byte{byte(c)})
		for _, text := range []string{"", "x", a, a + a, "x" + a + "y", "\x00\r\xff"} {
			want := text + a + a + text + "\n" + a + text + a + "\n"
			ins := rig.Whole(text+"\n", "\n"+text+"\n", text+"\n")
			for _, size := range []int{1, 32} {
				if seen := pastes.RunOf(t, by(3, byte(c)), ins, size); seen != (rig.Seen{Out: want, Need: api.Ended}) {
					t.Errorf("A %d, %v: %+v; want %q", c, ins, seen, want)
				}
			}
		}
	}
}

// P13.2: each of all 256 bytes, in each input's lines
func TestEachByteButTenIsOfALine(t *testing.T) {
	for port := range api.MaxPorts {
		for c := range 256 {
			if c == 10 {
				continue
			}
			texts := []string{"a\n", "b\n", "c\n", "d\n"}
			texts[port] = string([]byte{byte(c), 'z', byte(c), '\n'})
			want := strings.ReplaceAll(strings.Join(texts, ","), "\n,", ",")
			if got := pastes.ToldOf(t, of(4), 3, texts...); got != want {
				t.Errorf("%q: %q; want %q", texts, got, want)
			}
		}
	}
}

// P13.2: of 64 bytes as of fewer, and by the 65th it fails, whichever input that is of
func TestALineIsTooLongByItsByte65(t *testing.T) {
	for n := 1; n <= api.MaxPorts; n++ {
		for port := range n {
			for ahead := range 2 {
				holdTooLong(t, n, port, ahead)
			}
		}
	}
}

// holdTooLong hands a paste of n inputs so many rows, then a line of this input that is
// too long.
func holdTooLong(t *testing.T, n, port, rows int) {
	t.Helper()
	d := pastes.Drive(t, of(n))
	for range rows {
		for range n {
			d.Feed("r\n")
		}
	}
	for i := range port {
		d.Feed([]string{"f\n", "g\nh\n"}[i%2])
	}
	d.Feed(rig.Word(32))
	d.Feed(rig.Word(32))
	if d.Seen.Need != port || d.Seen.Err != api.OK {
		t.Fatalf("N %d, input %d, by 64 bytes: %+v", n, port, d.Seen)
	}
	before := d.Seen.Out
	d.Feed("x")
	if d.Seen != (rig.Seen{Out: before, Need: api.Ended, Err: api.ErrLong}) {
		t.Fatalf("N %d, input %d, by 65 bytes: %+v; want ErrLong, and nothing held", n, port, d.Seen)
	}
	d.Pester()
}

// P13.2: with the byte that is too much there come others, ends of lines too
func TestALineThatIsTooLongFailsInAnyChunk(t *testing.T) {
	pastes.HoldTooLong(t, of(2))
	pastes.HoldTooLong(t, of(2), "a\nb\n")
}

// P13.2: it fails when that input is read, not ahead of that, and what is behind the line
// is not asked for
func TestALineThatIsTooLongFailsWhenItIsRead(t *testing.T) {
	long := rig.Word(65)
	for _, c := range []struct {
		ins  []rig.Input
		seen rig.Seen
	}{
		{[]rig.Input{rig.Begun(""), rig.Ended(long)}, rig.Seen{}},
		{[]rig.Input{rig.Begun("a"), rig.Ended(long + "\n")}, rig.Seen{}},
		{[]rig.Input{rig.Begun("a\n"), rig.Ended(long)}, rig.Seen{Need: api.Ended, Err: api.ErrLong}},
		{[]rig.Input{rig.Begun("a\n"), rig.Ended("x\n" + long)}, rig.Seen{Out: "a,x\n"}},
		{[]rig.Input{rig.Ended("a\n"), rig.Ended("x\n" + long + "\ny\n")}, rig.Seen{Out: "a,x\n", Need: api.Ended, Err: api.ErrLong}},
		{[]rig.Input{rig.Ended(long), rig.Begun("")}, rig.Seen{Need: api.Ended, Err: api.ErrLong}},
		{[]rig.Input{rig.Begun("a\n" + long), rig.Begun("x\n")}, rig.Seen{Out: "a,x\n", Need: api.Ended, Err: api.ErrLong}},
		{[]rig.Input{rig.Begun("a\n" + long), rig.Begun("x")}, rig.Seen{Need: 1}},
		{[]rig.Input{rig.Ended(""), rig.Begun(""), rig.Begun(long)}, rig.Seen{Need: 1}},
		{[]rig.Input{rig.Ended(""), rig.Begun("\n"), rig.Begun(long)}, rig.Seen{Need: api.Ended, Err: api.ErrLong}},
		{[]rig.Input{rig.Ended(""), rig.Ended(long), rig.Ended(long)}, rig.Seen{Need: api.Ended, Err: api.ErrLong}},
	} {
		for _, size := range []int{1, 2, 31, 32} {
			seen := pastes.RunOf(t, of(len(c.ins)), c.ins, size)
			if seen.Held = 0; seen != c.seen {
				t.Errorf("%v, by %d bytes: %+v; want %+v", c.ins, size, seen, c.seen)
			}
		}
	}
}

// P13.2: an answer of all rows that may come by one call
func TestManyRowsComeInOneAnswer(t *testing.T) {
	for n := 1; n <= api.MaxPorts; n++ {
		m := pastes.Make(t, of(n))
		for port := range n {
			rig.HoldSteps(t, m, rig.Behind(rig.Word(32), "", port, 32+max(0, port*64+port-1)), rig.Behind(rig.Word(32), "", port, 64+max(0, port*64+port-1)))
			outs, e := m.Feed(port, []byte(strings.Repeat("\n", 32)))
			if port < n-1 {
				if outs != nil || e != api.OK || m.Need() != port+1 {
					t.Fatalf("N %d, input %d: %+v, %v, Need %d", n, port, outs, e, m.Need())
				}
				continue
			}
			row := strings.Repeat(",", n-1) + "\n"
			first := strings.Repeat(rig.Word(32)+rig.Word(32)+",", n)
			want := first[:len(first)-1] + "\n" + strings.Repeat(row, 31)
			told := rig.Text(outs)
			for m.Need() == api.More {
				outs, e = m.More()
				told += rig.Text(outs)
			}
			if told != want || e != api.OK || m.Need() != 0 || m.Held() != 0 {
				t.Fatalf("N %d: %q, %v, Need %d, Held %d; want %q", n, told, e, m.Need(), m.Held(), want)
			}
		}
	}
}

// P13.2: by an end, too
func TestManyRowsComeByAnEnd(t *testing.T) {
	d := pastes.Drive(t, of(3))
	d.Feed(strings.Repeat("\n", 32))
	d.Feed(strings.Repeat("b\n", 16))
	d.End()
	if rows := strings.Repeat(",b,\n", 16); d.Seen != (rig.Seen{Out: rows, Need: 1, Held: 0}) {
		t.Fatalf("%+v; want %q", d.Seen, rows)
	}
	d.End()
	if rows := strings.Repeat(",b,\n", 16) + strings.Repeat(",,\n", 16); d.Seen != (rig.Seen{Out: rows, Need: 0}) {
		t.Fatalf("%+v; want %q", d.Seen, rows)
	}
}

// P13.3: the most that may come to be held, of each input
func TestWhatIsHeldIsWithinTheBound(t *testing.T) {
	for n := 1; n <= api.MaxPorts; n++ {
		d := pastes.Drive(t, of(n))
		for range n {
			d.Feed(rig.Word(32))
			d.Feed(rig.Word(32))
			if d.Seen.Held > 96*n {
				t.Errorf("N %d: Held %d", n, d.Seen.Held)
			}
			if d.Seen.Need < n-1 {
				d.Feed("\n" + rig.Word(31))
			}
		}
		bound, _ := params.Bound(of(n))
		if want := 64 + (n-1)*95 + max(0, n-2); d.Seen.Held != want || d.Seen.Held > bound || bound != 96*n {
			t.Errorf("N %d: Held %d; want %d, at most %d", n, d.Seen.Held, want, bound)
		}
		d.Feed("\n")
		if want := 31 * (n - 1); d.Seen.Held != want {
			t.Errorf("N %d, behind the row: Held %d; want %d", n, d.Seen.Held, want)
		}
	}
}

// P13.3: what waits, what is begun, and the row, each by itself
func TestHeldCountsWhatWaitsAndWhatIsBegunAndTheRow(t *testing.T) {
	rig.HoldSteps(t, pastes.Make(t, of(2)),
		rig.Behind("ab", "", 0, 2), rig.Behind("c\n", "", 1, 3), rig.Behind("x", "", 1, 4), rig.Behind("\nyz", "abc,x\n", 0, 2),
		rig.Behind("\n\n\n", "", 1, 2), rig.Behind("\n", ",yz\n", 1, 0))
	rig.HoldSteps(t, pastes.Make(t, of(2)),
		rig.Behind("ab\ncde\nf", "", 1, 6), rig.Behind("\n", "ab,\n", 1, 4), rig.Behind(rig.End, "cde,\n", 0, 1), rig.Behind(rig.End, "f,\n", api.Ended, 0))
	rig.HoldSteps(t, pastes.Make(t, of(4)),
		rig.Behind("ab\n", "", 1, 2), rig.Behind("cd\n", "", 2, 5), rig.Behind("ef\n", "", 3, 8), rig.Behind("gh", "", 3, 10), rig.Behind("\n", "ab,cd,ef,gh\n", 0, 0),
		rig.Behind("\n", "", 1, 0), rig.Behind("\n", "", 2, 1), rig.Behind("\n", "", 3, 2), rig.Behind("\n", ",,,\n", 0, 0))
}

// P13.4: of each input
func TestChunksOfMaxChunkBytesAreTakenAndNoGreaterOnes(t *testing.T) {
	pastes.HoldChunkLimits(t, of(1), of(2), of(3), of(4))
	for port := range api.MaxPorts {
		m := ready(t, api.MaxPorts, port)
		for _, n := range []int{0, 33, 34, 64, 96, 1000} {
			if outs, e := m.Feed(port, []byte(strings.Repeat("\n", n))); outs != nil || e != api.ErrArg || m.Need() != port {
				t.Errorf("input %d, %d bytes: %+v, %v, Need %d; want ErrArg", port, n, outs, e, m.Need())
			}
		}
		if _, e := m.Feed(port, []byte(strings.Repeat("\n", 32))); e != api.OK || m.Need() == port && port != 3 {
			t.Errorf("input %d, 32 bytes: %v, Need %d", port, e, m.Need())
		}
	}
}

// P13.4: ahead of each step, and behind the last one
func TestRefusalsChangeNothing(t *testing.T) {
	for _, texts := range lists() {
		for _, ins := range rig.Endings(texts...) {
			if len(texts) < 4 || ins[0].Ended {
				pastes.HoldRefusalsOf(t, of(len(ins)), ins)
			}
		}
	}
}

// ready answers a paste of n inputs that reads this one: each of those ahead of it has
// ended, or has told its line for the row; behind the last one it has ended.
func ready(t *testing.T, n, port int) api.Machine {
	t.Helper()
	m := pastes.Make(t, of(n))
	for i := range port {
		if i%2 == 0 || port == n {
			m.End(i)
		} else {
			m.Feed(i, []byte("x\n"))
		}
	}
	if port < n && m.Need() != port {
		t.Fatalf("N %d: Need %d; want %d", n, m.Need(), port)
	}
	return m
}

// P13.4: one by one, while each input is read: those that have ended, those that come
// later, such as there are not; chunks of no bytes, and of too many; More
func TestEachUndueCallIsRefused(t *testing.T) {
	for n := 1; n <= api.MaxPorts; n++ {
		for port := range n {
			for _, call := range rig.UndueCallsOf(port) {
				m := ready(t, n, port)
				for _, chunk := range []string{"", "a"} {
					if chunk != "" {
						m.Feed(port, []byte(chunk))
					}
					rig.HoldUndue(t, m, call)
				}
				for m.Need() != api.Ended {
					m.End(m.Need())
				}
				rig.HoldDone(t, m, call)
			}
		}
	}
}

// P13.4: whatever is called, of whichever input
func TestBehindTheEndAndBehindAFailureAllIsRefused(t *testing.T) {
	for n := 1; n <= api.MaxPorts; n++ {
		for port := range n + 1 {
			m := ready(t, n, port)
			for m.Need() != api.Ended {
				m.Feed(port, []byte(rig.Word(32)))
			}
			for range 2 {
				for i := range n {
					rig.HoldDone(t, m, rig.FeedOf(i, []byte("a\n")))
					rig.HoldDone(t, m, rig.Call{Name: "End", Make: func(m api.Machine) ([]api.Out, api.Errno) { return m.End(i) }})
				}
				for _, call := range rig.UndueCallsOf(-4) {
					rig.HoldDone(t, m, call)
				}
			}
		}
	}
}

// P13.4
func TestMachinesShareNothing(t *testing.T) {
	one, other := pastes.Drive(t, of(2)), pastes.Drive(t, by(3, ':'))
	for _, chunk := range []string{"a\nb", "c\n", "d\ne\n"} {
		one.Feed(chunk)
		other.Feed(strings.ToUpper(chunk))
	}
	third := pastes.Drive(t, by(2, ';'))
	for _, d := range []*rig.Driver{third, one, other} {
		for d.Seen.Need != api.Ended {
			d.End()
		}
	}
	if one.Seen.Out != "a,c\nbd,\ne,\n" || other.Seen.Out != "A:C:D\nB::E\n" || third.Seen.Out != "" {
		t.Errorf("%q, %q, %q", one.Seen.Out, other.Seen.Out, third.Seen.Out)
	}
}

// P13.4: what is written over a chunk behind Feed plays no part, nor what is written over
// the parameters' bytes behind New
func TestWhatIsHandedInIsNeitherKeptNorChanged(t *testing.T) {
	p := of(2)
	m, _ := New(p)
	p.A[0] = '?'
	chunk := make([]byte, 4, 8)
	told := ""
	for _, text := range []string{"ab\nc", "x\n\ny", "de\nf", "\nz\n\n"} {
		copy(chunk, text)
		outs, e := m.Feed(m.Need(), chunk)
		if string(chunk) != text || e != api.OK {
			t.Errorf("%q is %q behind Feed: %v", text, chunk, e)
		}
		copy(chunk[:8], "!!!!!!!!")
		told += rig.Text(outs)
		for _, o := range outs {
			copy(o.Bytes[:cap(o.Bytes)], "????????????????")
		}
	}
	if told != "ab,x\ncde,\n" || m.Need() != 1 || m.Held() != 3 {
		t.Errorf("%q, Need %d, Held %d", told, m.Need(), m.Held())
	}
}

// P13.4: answers that are kept stay as they are, whatever comes behind them
func TestAnswersAreNewMemory(t *testing.T) {
	for size := 1; size <= api.MaxChunk; size++ {
		for _, texts := range [][]string{{rig.Letters()}, {rig.Letters(), "a\nb\n"}, {"abc", rig.Word(60) + "\n" + rig.Word(64), rig.Letters()}, {rig.Letters(), "", "a\n", rig.Letters()}} {
			pastes.HoldAnswersOf(t, of(len(texts)), rig.Whole(texts...), size)
		}
	}
}

// P13.4: no two answers share memory, nor what stands behind it
func TestAnswersShareNothing(t *testing.T) {
	m := pastes.Make(t, of(2))
	var kept []api.Out
	for _, chunk := range []string{"a\nb\n", "x\n", "y", "\nz\n", "c\nd\ne\nf", "w\n\n"} {
		outs, _ := m.Feed(m.Need(), []byte(chunk))
		kept = append(kept, outs...)
	}
	if len(kept) < 4 {
		t.Fatalf("%+v", kept)
	}
	rig.HoldApart(t, kept...)
}

// P13.5: each input by chunks of a size of its own
func TestEachInputComesByChunksOfItsOwn(t *testing.T) {
	texts := []string{rig.Letters(), "a\n" + rig.Letters(), strings.Repeat("\n", 60), strings.Repeat(rig.Word(50)+"\n", 9)}
	want := pastes.ToldOf(t, of(4), 1, texts...)
	for size := 1; size <= api.MaxChunk; size++ {
		d := pastes.Drive(t, of(4))
		left := slices.Clone(texts)
		for d.Seen.Need != api.Ended {
			port := d.Seen.Need
			if left[port] == "" {
				d.End()
				continue
			}
			n := min((size+7*port)%api.MaxChunk+1, len(left[port]))
			d.Feed(left[port][:n])
			left[port] = left[port][n:]
		}
		if d.Seen != (rig.Seen{Out: want, Need: api.Ended}) {
			t.Errorf("from size %d on: %+v; want %q", size, d.Seen, want)
		}
	}
}

// P13.6: of the input that is read, and of others, too
func TestMoreOfInputsGoesOnFromWhatCame(t *testing.T) {
	for _, texts := range lists() {
		for _, ins := range rig.Endings(texts...) {
			if ended := ins[0].Ended; ended || len(ins) < 3 {
				pastes.HoldGrowthOf(t, of(len(ins)), ins)
			}
		}
	}
}

// linesOf are a text's lines.
func linesOf(text string) []string {
	if text == "" {
		return nil
	}
	return strings.Split(strings.TrimSuffix(text, "\n"), "\n")
}

// P13.7: without the denotation, and without what drives by it
func TestFieldsAreTheLinesOfTheirInput(t *testing.T) {
	for _, texts := range lists() {
		if long := slices.ContainsFunc(texts, func(s string) bool { return strings.Contains(s, rig.Word(65)) }); long {
			continue
		}
		for _, size := range []int{1, 3, 31, 32} {
			got := linesOf(pastes.ToldOf(t, by(len(texts), '|'), size, texts...))
			for k, text := range texts {
				holdColumn(t, got, len(texts), k, linesOf(text))
			}
			longest := 0
			for _, text := range texts {
				longest = max(longest, len(linesOf(text)))
			}
			if len(got) != longest {
				t.Errorf("%q: %d rows; want %d", texts, len(got), longest)
			}
		}
	}
}

// holdColumn holds the k-th fields of rows against lines, and empty ones behind them.
func holdColumn(t *testing.T, rows []string, n, k int, lines []string) {
	t.Helper()
	for i, row := range rows {
		fields := strings.Split(row, "|")
		want := ""
		if i < len(lines) {
			want = lines[i]
		}
		if len(fields) != n || fields[k] != want {
			t.Errorf("row %d, %q: field %d is to be %q", i, row, k, want)
		}
	}
}

// P13.7: one input's lines come as they are
func TestAPasteOfOneInputTellsItsLines(t *testing.T) {
	for _, text := range rig.SmallInputs(5) {
		want := text
		if text != "" && !strings.HasSuffix(text, "\n") {
			want += "\n"
		}
		if got := pastes.ToldOf(t, of(1), 2, text); got != want {
			t.Errorf("%q comes to %q", text, got)
		}
	}
}

// P13.7: of all pairs of inputs of a few bytes
func TestSmallInputsComeSideBySide(t *testing.T) {
	for _, first := range rig.SmallInputs(4) {
		for _, second := range rig.SmallInputs(4) {
			got := linesOf(pastes.ToldOf(t, by(2, '|'), 2, first, second))
			a, b := linesOf(first), linesOf(second)
			if len(got) != max(len(a), len(b)) {
				t.Errorf("%q, %q come to %q", first, second, got)
			}
			holdColumn(t, got, 2, 0, a)
			holdColumn(t, got, 2, 1, b)
		}
	}
}

// P13.2 to P13.6, of any bytes
func FuzzPaste(f *testing.F) {
	f.Add(uint8(1), byte(','), []byte("a\nb\nx\n"), uint16(4), uint16(0), uint16(0), []byte{1, 2, 3}, uint8(15))
	f.Add(uint8(3), byte(0), []byte("a\nb\x00c\xff\n\n\nd"), uint16(3), uint16(3), uint16(3), []byte{31, 0}, uint8(13))
	f.Add(uint8(0), byte('\n'), []byte(""), uint16(0), uint16(0), uint16(0), []byte{}, uint8(0))
	f.Add(uint8(2), byte(255), []byte("a\n"+rig.Word(64)+"\n"+rig.Word(70)), uint16(2), uint16(65), uint16(0), []byte{7}, uint8(3))
	f.Fuzz(func(t *testing.T, count uint8, a byte, all []byte, first, second, third uint16, cuts []byte, ended uint8) {
		if len(all) > 2048 || a == 10 {
			return
		}
		var parts []string
		left := string(all)
		for i := range int(count) % api.MaxPorts {
			at := int([]uint16{first, second, third}[i]) % (len(left) + 1)
			parts = append(parts, left[:at])
			left = left[at:]
		}
		ins := rig.Whole(append(parts, left)...)
		for i := range ins {
			ins[i].Ended = ended>>i&1 == 1
		}
		seen := pastes.RunOf(t, by(len(ins), a), ins, rig.Sizes(cuts)...)
		once := pastes.RunOf(t, by(len(ins), a), ins, 1)
		if seen.Held = once.Held; seen != once {
			t.Errorf("%v: %+v; byte by byte %+v", ins, seen, once)
		}
	})
}
