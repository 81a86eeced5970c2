package join

import (
	"slices"
	"strings"
	"testing"

	"penstock/api"
	"penstock/params"
	"penstock/rig"
)

// greatest is the greatest N of which a join holds no more than it may.
const greatest = 14

// joins are what is tested, held against reckon.
var joins = rig.Subject{New: New, Reckon: reckon}

// of makes the parameters of a join by a comma.
func of(n int) api.Params { return by(n, ',') }

// by makes the parameters of a join by this byte.
func by(n int, a byte) api.Params {
	return api.Params{Kind: api.KindJoin, N: n, A: []byte{a}}
}

// parted is a line's key, and its rest.
func parted(text string, a byte) (key, rest string) {
	for i := range len(text) {
		if text[i] == a {
			return text[:i], text[i+1:]
		}
	}
	return text, ""
}

// keyOf is a line's key.
func keyOf(text string, a byte) string {
	key, _ := parted(text, a)
	return key
}

// How an input's group that is not whole stops.
const (
	notYet = iota
	none
	lesser
	tooMany
	tooLong
)

// row is an input's groups that are whole, and how the one behind them stops.
type row struct {
	groups [][]string
	stop   int
}

// rowOf parts an input into groups.
func rowOf(in rig.Input, n int, a byte) row {
	var groups [][]string
	var begun []string
	lines := strings.Split(in.Text, "\n")
	for i, text := range lines {
		last := i == len(lines)-1
		switch {
		case len(text) > api.MaxLine:
			return row{groups, tooLong}
		case last && !in.Ended:
			return row{groups, notYet}
		case last && text == "":
			continue
		}
		if len(begun) > 0 {
			switch order := strings.Compare(keyOf(begun[0], a), keyOf(text, a)); {
			case order > 0:
				return row{groups, lesser}
			case order == 0 && len(begun) == n:
				return row{groups, tooMany}
			case order < 0:
				groups, begun = append(groups, begun), nil
			}
		}
		begun = append(begun, text)
	}
	if len(begun) > 0 {
		groups = append(groups, begun)
	}
	return row{groups, none}
}

// sizeOf is how many bytes groups have.
func sizeOf(groups [][]string) int { return len(strings.Join(slices.Concat(groups...), "")) }

// pairsOf are all pairs of the lines of two groups.
func pairsOf(first, second []string, a byte) string {
	var pairs []string
	for _, text := range first {
		for _, other := range second {
			key, rest := parted(text, a)
			_, otherRest := parted(other, a)
			pairs = append(pairs, strings.Join([]string{key, rest, otherRest}, string([]byte{a}))+"\n")
		}
	}
	return strings.Join(pairs, "")
}

// reckon is the denotation. What is held is what came of lines, but for the groups that
// are done with.
func reckon(p api.Params, ins []rig.Input) rig.Seen {
	a := p.A[0]
	first, second := rowOf(ins[0], p.N, a), rowOf(ins[1], p.N, a)
	out, i, j := "", 0, 0
	for i < len(first.groups) && j < len(second.groups) {
		one, other := first.groups[i], second.groups[j]
		order := strings.Compare(keyOf(one[0], a), keyOf(other[0], a))
		if order == 0 {
			out += pairsOf(one, other, a)
		}
		if order <= 0 {
			i++
		}
		if order >= 0 {
			j++
		}
	}
	need, stop := 0, first.stop
	if i < len(first.groups) {
		need, stop = 1, second.stop
	}
	switch stop {
	case none:
		return rig.Seen{Out: out, Need: api.Ended}
	case lesser:
		return rig.Seen{Out: out, Need: api.Ended, Err: api.ErrOrder}
	case tooMany:
		return rig.Seen{Out: out, Need: api.Ended, Err: api.ErrGroup}
	case tooLong:
		return rig.Seen{Out: out, Need: api.Ended, Err: api.ErrLong}
	}
	held := len(strings.ReplaceAll(ins[0].Text+ins[1].Text, "\n", ""))
	return rig.Seen{Out: out, Need: need, Held: held - sizeOf(first.groups[:i]) - sizeOf(second.groups[:j])}
}

// lists are inputs, by an N.
type list struct {
	n             int
	first, second string
}

// lists are such as matter to a join.
func lists() []list {
	most, long := rig.Word(64), rig.Word(65)
	full := strings.Repeat(most+"\n", greatest)
	ends := strings.Repeat("\n", 32)
	return []list{
		{1, "", ""}, {1, "a", ""}, {1, "", "a"}, {2, "\n\n", ""}, {2, "", "\n\n"}, {1, "", "b\na\n"}, {1, "", long},
		{1, "a", "a"}, {1, "a\n", "a\n"}, {1, "\n", "\n"}, {1, "a", "b"}, {1, "b", "a"}, {1, ",", ","}, {1, "\n", ",x"},
		{3, "a,1\nb,2\nb,3\nd", "b,x\nc\nd,y"}, {3, "a,1\nb,2\nb,3\nd\n", "b,x\nc\nd,y\n"}, {3, "b,x\nc\nd,y", "a,1\nb,2\nb,3\nd"},
		{1, "a\nb\nc\nd", "a\nb\nc\nd"}, {1, "a\nc\ne", "b\nd\nf"}, {1, "b\nd\nf", "a\nc\ne"}, {1, "a\nb\nc\nd\ne\n", "e\n"}, {1, "e\n", "a\nb\nc\nd\ne\nf\n"},
		{2, "a,1\na,2\nb,3\nb,4\n", "a,5\na,6\nb,7\nb,8"}, {3, "a,1\na,2\na,3\n", "a,x\na\na,\n"}, {3, "\n,\n,x\na\n", "\n\n,,\nb"},
		{2, "k,1,2\nk,\n", "k,,\nk,,,3\n"}, {2, "a\nab,1\nabc\nb", "a,x\nab\nabb\nabc\nac"}, {2, "a,z\na!,b\n", "a,y\na!,c\n"},
		{2, "\x00,\r\n\r\xff,\x00\n\xff\n\xff,\xff", "\x00\n\r,x\n\r\xff\n\xff,\x00\r"}, {1, "\r\n\x80\n", "\r,\n\x80,\x80\n"},
		{1, "a,1\na,2\n", "a"}, {1, "a", "a,1\na,2"}, {2, "a\na\na", "b"}, {2, "a\nb\nb\nb\n", "a\nb\nb\nb\n"}, {2, "a\nc\nc\nc", "b\nd"}, {2, "c\n", "a\nb\nb\nb\n"},
		{2, "b\na", "a"}, {2, "a\nb\na", "a\nb\n"}, {2, "b\n", "b\na\n"}, {2, "a\nc\nb\n", "a\nd\n"}, {3, "a\na,\n\n", "a\n"}, {2, "b\nd\n", "a\nb\nc\nb\n"},
		{2, "b\na\n" + long, "b"}, {2, "b\n" + long + "\na\n", "b"}, {1, "a\na\n0\n", "a"}, {1, "b\na\na\n", "b"}, {1, "b", "b\nb,\na"},
		{1, long, ""}, {1, "a\n", long + "\na"}, {2, "a\nb,1\n" + long, "a,x\nb\n"}, {2, "a\nb\n", "a,x\nb\n" + long}, {2, "a\n" + long, "b\n"}, {1, "a,\n" + "a," + rig.Word(63), "a"},
		{2, most + "\n" + most + "\nb,\n", most + "\n"}, {2, most + "\nb\n", most + "\n" + most}, {1, "a," + rig.Word(62) + "\n", "a," + rig.Word(62) + "\n"},
		{greatest, full, full}, {greatest, full + "z", full + "y,\nz,1\n"}, {greatest, full + most, ""}, {greatest, "a", ends}, {greatest, ends, "a"}, {greatest, "a\nb" + ends, "a\nb\nc\n"},
		{greatest, strings.Repeat("a\n", 13) + "b\nc", strings.Repeat("a,x\n", 14) + "b"}, {greatest, rig.Letters(), rig.Letters()},
	}
}

// endings are the ways in which both inputs have ended, or not.
func (l list) endings() [][]rig.Input { return rig.Endings(l.first, l.second) }

// isSmall tells whether it has few bytes: not all that is tried takes more.
func (l list) isSmall() bool { return len(l.first)+len(l.second) <= 300 }

// P14.1
func TestNewMakesAMachineOfJoinsAlone(t *testing.T) {
	for n := 1; n <= greatest; n++ {
		for c := range 256 {
			for _, b := range [][]byte{nil, {}} {
				p := by(n, byte(c))
				p.B = b
				if c == 10 {
					if m, e := New(p); m != nil || e != api.ErrParam {
						t.Errorf("A 10: %v, %v; want none, ErrParam", m, e)
					}
				} else if m := joins.Make(t, p); m.Need() != 0 || m.Held() != 0 {
					t.Errorf("%+v: Need %d, Held %d; want 0, 0", p, m.Need(), m.Held())
				}
			}
		}
	}
}

// P14.1
func TestNewRefuses(t *testing.T) {
	var own []rig.Refusal
	for _, n := range []int{0, -1, -2, -14, -1 << 32, -1 << 63} {
		own = append(own, rig.Refusal{P: of(n), Err: api.ErrParam})
	}
	for _, n := range []int{greatest + 1, 16, 100, 1 << 32, 1<<32 + 1, 1 << 57, 1 << 58, 1<<63 - 1} {
		own = append(own, rig.Refusal{P: of(n), Err: api.ErrState})
		own = append(own, rig.Refusal{P: by(n, 10), Err: api.ErrParam})
	}
	for _, a := range [][]byte{nil, {}, []byte(",,"), []byte(",:"), {10}, {10, 10}, {',', 10}, make([]byte, 100)} {
		own = append(own, rig.Refusal{P: api.Params{Kind: api.KindJoin, N: 2, A: a}, Err: api.ErrParam})
	}
	for _, b := range [][]byte{{0}, {10}, []byte(","), make([]byte, 100)} {
		own = append(own, rig.Refusal{P: api.Params{Kind: api.KindJoin, N: 2, A: []byte(","), B: b}, Err: api.ErrParam})
	}
	joins.HoldNew(t, api.KindJoin, own...)
}

// P14.2: the chapter's example, and that of the whole; a pair a piece
func TestTheExamples(t *testing.T) {
	for size := 1; size <= api.MaxChunk; size++ {
		for _, c := range []struct {
			p             api.Params
			first, second string
			answers       []string
		}{
			{by(3, ':'), "a:1\nb:2\nb:3\nd\n", "b:x\nc\nd:y\n", []string{"b:2:x\n", "b:3:x\n", "d::y\n"}},
			{by(3, ':'), "a:1\nb:2\nb:3\nd", "b:x\nc\nd:y", []string{"b:2:x\n", "b:3:x\n", "d::y\n"}},
			{of(1), "k,1\n", "k,2\n", []string{"k,1,2\n"}},
		} {
			d := joins.Drive(t, c.p)
			d.RunOf(rig.Whole(c.first, c.second), size)
			if !slices.Equal(d.Answers, c.answers) || d.Seen.Need != api.Ended {
				t.Errorf("%q, %q by %d bytes: %q, Need %d; want %q", c.first, c.second, size, d.Answers, d.Seen.Need, c.answers)
			}
		}
	}
}

// P14.2, at each step; P14.3 and P14.5, too, and P14.4's memory
func TestTheDenotationComesByAllChunks(t *testing.T) {
	for _, l := range lists() {
		for _, ins := range l.endings() {
			joins.HoldChunksOf(t, of(l.n), ins)
		}
	}
}

// P14.2: the denotation is reckoned rightly
func TestWhatComesOfSomeInputs(t *testing.T) {
	most := rig.Word(64)
	for _, c := range []struct {
		n             int
		first, second string
		out           string
	}{
		{1, "", "", ""},
		{1, "a", "", ""},
		{1, "", "a", ""},
		{1, "\n", "", ""},
		{1, "", "\n", ""},
		{1, "a", "b", ""},
		{1, "b", "a", ""},
		{1, "a", "a", "a,,\n"},
		{1, "a\n", "a", "a,,\n"},
		{1, "\n", "\n", ",,\n"},
		{1, "\n", ",x", ",,x\n"},
		{1, ",", "\n", ",,\n"},
		{1, ",,", ",,,", ",,,,,\n"},
		{1, "k,1", "k,2", "k,1,2\n"},
		{1, "k,1", "k", "k,1,\n"},
		{1, "k", "k,2", "k,,2\n"},
		{1, "k,1,2", "k,3,4\n", "k,1,2,3,4\n"},
		{1, "k,,1", "k,2,", "k,,1,2,\n"},
		{2, "k,1\nk,2", "k,3", "k,1,3\nk,2,3\n"},
		{2, "k,1", "k,3\nk,4", "k,1,3\nk,1,4\n"},
		{2, "k,1\nk,2\n", "k,3\nk,4\n", "k,1,3\nk,1,4\nk,2,3\nk,2,4\n"},
		{2, "k,2\nk,1\n", "k,4\nk,3\n", "k,2,4\nk,2,3\nk,1,4\nk,1,3\n"},
		{2, "k,1\nk,1\n", "k,3\nk,3\n", "k,1,3\nk,1,3\nk,1,3\nk,1,3\n"},
		{3, "k\nk,2\nk,", "k,a\nk", "k,,a\nk,,\nk,2,a\nk,2,\nk,,a\nk,,\n"},
		{1, "a,1\nb,2\nc,3", "a,x\nb,y\nc,z", "a,1,x\nb,2,y\nc,3,z\n"},
		{1, "a,1\nc,3", "b,y\nc,z\nd", "c,3,z\n"},
		{1, "a,1\nb\nc\nd,4", "d,x", "d,4,x\n"},
		{1, "d,4\n", "a\nb\nc\nd,x\n", "d,4,x\n"},
		{2, "a,1\na,2\nb,3\nb,4\n", "a,5\nb,7\nb,8", "a,1,5\na,2,5\nb,3,7\nb,3,8\nb,4,7\nb,4,8\n"},
		{1, "a,1\nab,2\nabc,3\n", "a,4\nabb\nabc,5", "a,1,4\nabc,3,5\n"},
		{1, "\na", ",1\na,2", ",,1\na,,2\n"},
		{1, "a,z\na!,y\n", "a,1\na!,2\n", "a,z,1\na!,y,2\n"},
		{1, "\x00,\r\n\r,\x00\n\xff,\xff", "\x00,1\n\r,2\n\xff,3\n", "\x00,\r,1\n\r,\x00,2\n\xff,\xff,3\n"},
		{1, "\x7f,1\n\x80,2\n", "\x7f\n\x80\n", "\x7f,1,\n\x80,2,\n"},
		{1, most, most, most + ",,\n"},
		{1, "," + most[:63], "," + most[:63], "," + most[:63] + "," + most[:63] + "\n"},
		{1, most[:63] + ",", most[:63] + ",\n", most[:63] + ",,\n"},
	} {
		want := rig.Seen{Out: c.out, Need: api.Ended}
		for _, size := range []int{1, 5, 32} {
			if seen := joins.RunOf(t, of(c.n), rig.Whole(c.first, c.second), size); seen != want {
				t.Errorf("N %d, %q, %q, by %d bytes: %+v; want %q", c.n, c.first, c.second, size, seen, c.out)
			}
		}
	}
}

// P14.2: by each of its errors, beside what came out ahead of it; and where several stand
// in one input, or in both, that comes which is read first
func TestHowInputsFail(t *testing.T) {
	most, long := rig.Word(64), rig.Word(65)
	for _, c := range []struct {
		n             int
		first, second string
		out           string
		err           api.Errno
	}{
		{2, "b\na", "a", "", api.ErrOrder},
		{2, "b\n\n", "a", "", api.ErrOrder},
		{2, "ab\na\n", "a", "", api.ErrOrder},
		{2, "b", "b\na", "", api.ErrOrder},
		{2, "a\nc\nb", "a\nc", "a,,\n", api.ErrOrder},
		{2, "a\nc\nb", "a", "a,,\n", api.ErrOrder},
		{2, "b\nd\n", "a\nb\nd\nc\n", "b,,\n", api.ErrOrder},
		{2, "a,1\n\x00,2\n", "", "", api.ErrOrder},
		{2, "\xff\n\x7f", "", "", api.ErrOrder},
		{1, "a\na", "a", "", api.ErrGroup},
		{1, "a,1\na,2\n", "", "", api.ErrGroup},
		{1, "a", "a\na", "", api.ErrGroup},
		{1, "\n\n", "a", "", api.ErrGroup},
		{2, "a\na\na", "a", "", api.ErrGroup},
		{2, "a\nb\nb\nb\n", "a\nb\n", "a,,\n", api.ErrGroup},
		{2, "a\nb\n", "a\na\nb\nb\nb\n", "a,,\na,,\n", api.ErrGroup},
		{greatest, strings.Repeat("a\n", greatest+1), "a", "", api.ErrGroup},
		{1, long, "", "", api.ErrLong},
		{1, "a", long + "\n", "", api.ErrLong},
		{1, "a\nb\n" + long, "a\nb", "a,,\n", api.ErrLong},
		{1, "a\nb\n", "a\n" + long, "", api.ErrLong},
		{1, "a\nb\n", "a\nb\n" + long, "a,,\n", api.ErrLong},
		{2, "b\na\n" + long, "b", "", api.ErrOrder},
		{2, "b\n" + long + "\na\n", "b", "", api.ErrLong},
		{1, "b\nb\na\n", "b", "", api.ErrGroup},
		{1, "b\na\na\n", "b", "", api.ErrOrder},
		{1, "b\nb\n" + long, "b", "", api.ErrGroup},
		{1, "b\n" + long + "\nb\nb\n", "b", "", api.ErrLong},
		{1, "b", "b\nb\na\n" + long, "", api.ErrGroup},
		{1, "b", "b\na\nb\nb\n" + long, "", api.ErrOrder},
		{1, "a\na," + most[:62], "a", "", api.ErrGroup},
		{1, "a\na," + most[:63], "a", "", api.ErrLong},
		{1, "b\nb\n", "b\na\n", "", api.ErrGroup},
		{1, "b\na\n", "b\nb\n", "", api.ErrOrder},
		{1, "a\nb\nb\n", "a\nb\na\n", "a,,\n", api.ErrGroup},
		{1, "a\nb\nc\n", "a\nb\na\n", "a,,\n", api.ErrOrder},
	} {
		want := rig.Seen{Out: c.out, Need: api.Ended, Err: c.err}
		for _, size := range []int{1, 2, 5, 31, 32} {
			seen := joins.RunOf(t, of(c.n), rig.Whole(c.first, c.second), size)
			if seen.Held = 0; seen != want {
				t.Errorf("N %d, %q, %q, by %d bytes: %+v; want %+v", c.n, c.first, c.second, size, seen, want)
			}
		}
	}
}

// P14.2: in what is never read nothing is wrong
func TestWhatIsNeverReadPlaysNoPart(t *testing.T) {
	for _, bad := range []string{"m\na\n", "m\nm,\nm,,\n", "m\n" + rig.Word(65), "m\n" + rig.Word(200) + "\n"} {
		for _, c := range []struct{ first, second, out string }{
			{"", bad, ""},
			{"b,1\n", "b,2\nk\n" + bad, "b,1,2\n"},
			{"a\nb\n", "k\n" + bad, ""},
			{"k\n" + bad, "", ""},
			{"b,1\nk\nl\n" + bad, "b,2\n", "b,1,2\n"},
			{"k\n" + bad, "a\nb\n", ""},
		} {
			for _, size := range []int{1, 2, 7, 32} {
				seen := joins.RunOf(t, of(2), rig.Whole(c.first, c.second), size)
				if seen.Held = 0; seen != (rig.Seen{Out: c.out, Need: api.Ended}) {
					t.Errorf("%q, %q, by %d bytes: %+v; want %q", c.first, c.second, size, seen, c.out)
				}
			}
		}
	}
}

// P14.2: of an input that has not ended, or has failed, and of what others told already
func TestAnInputThatHasNotEndedStopsWhatComes(t *testing.T) {
	for _, c := range []struct {
		ins  []rig.Input
		out  string
		need int
	}{
		{[]rig.Input{rig.Begun(""), rig.Begun("")}, "", 0},
		{[]rig.Input{rig.Begun(""), rig.Ended("a\nb\n")}, "", 0},
		{[]rig.Input{rig.Begun("a"), rig.Ended("a\nb\n")}, "", 0},
		{[]rig.Input{rig.Begun("a\n"), rig.Ended("a\nb\n")}, "", 0},
		{[]rig.Input{rig.Begun("a\nb"), rig.Ended("a\nb\n")}, "", 0},
		{[]rig.Input{rig.Begun("a\nb\n"), rig.Ended("a\nb\n")}, "a,,\n", 0},
		{[]rig.Input{rig.Begun("a\nb\n"), rig.Ended("a\n")}, "a,,\n", 0},
		{[]rig.Input{rig.Begun("a\nb\nc\n"), rig.Ended("a\n")}, "a,,\n", api.Ended},
		{[]rig.Input{rig.Begun("a\nb\n"), rig.Ended("")}, "", api.Ended},
		{[]rig.Input{rig.Begun("a\nb\n"), rig.Begun("")}, "", 1},
		{[]rig.Input{rig.Begun("a\nb\n"), rig.Begun("a\n")}, "", 1},
		{[]rig.Input{rig.Begun("a\nb\n"), rig.Begun("a\nb")}, "", 1},
		{[]rig.Input{rig.Begun("a\nb\n"), rig.Begun("a\nb\n")}, "a,,\n", 0},
		{[]rig.Input{rig.Begun("a\nb\n"), rig.Begun("c\nd\n")}, "", 0},
		{[]rig.Input{rig.Begun("c\nd\n"), rig.Begun("a\nb\n")}, "", 1},
		{[]rig.Input{rig.Ended("a"), rig.Begun("")}, "", 1},
		{[]rig.Input{rig.Ended("a"), rig.Begun("a\n")}, "", 1},
		{[]rig.Input{rig.Ended("a"), rig.Begun("a\nb\n")}, "a,,\n", api.Ended},
		{[]rig.Input{rig.Ended("a"), rig.Begun("b\nc\n")}, "", api.Ended},
		{[]rig.Input{rig.Ended("b"), rig.Begun("a\n")}, "", 1},
		{[]rig.Input{rig.Ended("b\nc"), rig.Begun("a\nb\nc\n")}, "b,,\n", 1},
		{[]rig.Input{rig.Ended(""), rig.Begun("")}, "", api.Ended},
		{[]rig.Input{rig.Ended(""), rig.Begun("b\na")}, "", api.Ended},
		{[]rig.Input{rig.Ended("a\nb\n"), rig.Begun("a,1\na,2\nb,3")}, "", 1},
		{[]rig.Input{rig.Ended("a\nb\n"), rig.Begun("a,1\na,2\nb,3\n")}, "a,,1\na,,2\n", 1},
	} {
		for _, size := range []int{1, 2, 32} {
			seen := joins.RunOf(t, of(2), c.ins, size)
			if seen.Held = 0; seen != (rig.Seen{Out: c.out, Need: c.need}) {
				t.Errorf("%v, by %d bytes: %+v; want %q, Need %d", c.ins, size, seen, c.out, c.need)
			}
		}
	}
}

// P14.2 and P14.3: a group of 0 is read, then one of 1; behind pairs both inputs' next
// ones, 0 ahead of 1; else that of the input with the lesser key alone
func TestInputsAreReadAsTheirGroupsAreWanted(t *testing.T) {
	rig.HoldSteps(t, joins.Make(t, of(3)),
		rig.Behind("b,1", "", 0, 3), rig.Behind("2\n", "", 0, 4), rig.Behind("b\nd", "", 0, 6), rig.Behind("\n", "", 1, 6),
		rig.Behind("a\n", "", 1, 7), rig.Behind("b,x\n", "", 1, 9), rig.Behind("c,y\n", "", api.More, 12),
		rig.Behind(rig.Piece, "b,12,x\n", api.More, 12), rig.Behind(rig.Piece, "b,,x\n", 0, 4),
		rig.Behind("f\n", "", 1, 5), rig.Behind("e\n", "", 1, 3), rig.Behind("g", "", 1, 4), rig.Behind("\n", "", 0, 3),
		rig.Behind(rig.End, "", 1, 2), rig.Behind(rig.End, "", api.Ended, 0))
	rig.HoldSteps(t, joins.Make(t, of(1)),
		rig.Behind("m\nn\n", "", 1, 2), rig.Behind("a\nb\nc\nd\n", "", 1, 3), rig.Behind("n\n", "", 1, 3),
		rig.Behind("p\n", "", 0, 3), rig.Behind("p\n", "", api.More, 4), rig.Behind(rig.Piece, "n,,\n", 0, 2),
		rig.Behind(rig.End, "", 1, 2), rig.Behind(rig.End, "", api.More, 2), rig.Behind(rig.Piece, "p,,\n", api.Ended, 0))
	rig.HoldSteps(t, joins.Make(t, of(1)),
		rig.Behind("a\nb\nc\nd\n", "", 1, 4), rig.Behind("c\nd\n", "", api.More, 4), rig.Behind(rig.Piece, "c,,\n", 0, 2),
		rig.Behind("e\n", "", 1, 3), rig.Behind(rig.End, "", api.More, 3), rig.Behind(rig.Piece, "d,,\n", 0, 1), rig.Behind(rig.End, "", api.Ended, 0))
}

// P14.2: whichever of both has ended, it ends when the next group of that is wanted, and
// not ahead of that, whatever the other one still tells
func TestItEndsWhenAnInputThatIsWantedHasNoLineLeft(t *testing.T) {
	rig.HoldSteps(t, joins.Make(t, of(2)), rig.Behind(rig.End, "", api.Ended, 0))
	rig.HoldSteps(t, joins.Make(t, of(2)),
		rig.Behind("a\n", "", 0, 1), rig.Behind("a", "", 0, 2), rig.Behind(rig.End, "", 1, 2), rig.Behind(rig.End, "", api.Ended, 0))
	rig.HoldSteps(t, joins.Make(t, of(2)),
		rig.Behind("a\nb", "", 0, 2), rig.Behind("\n", "", 1, 2), rig.Behind(rig.End, "", api.Ended, 0))
	rig.HoldSteps(t, joins.Make(t, of(2)),
		rig.Behind("b\n", "", 0, 1), rig.Behind(rig.End, "", 1, 1), rig.Behind("a\nc\n", "", 1, 2), rig.Behind("d\ne\nf", "", api.Ended, 0))
	rig.HoldSteps(t, joins.Make(t, of(2)),
		rig.Behind("a\n", "", 0, 1), rig.Behind(rig.End, "", 1, 1), rig.Behind("a\nb\nc\nd", "", api.More, 5), rig.Behind(rig.Piece, "a,,\n", api.Ended, 0))
	rig.HoldSteps(t, joins.Make(t, of(2)),
		rig.Behind("a\nb", "", 0, 2), rig.Behind(rig.End, "", 1, 2), rig.Behind("a\n", "", 1, 3), rig.Behind(rig.End, "", api.More, 3),
		rig.Behind(rig.Piece, "a,,\n", api.Ended, 0))
	rig.HoldSteps(t, joins.Make(t, of(2)),
		rig.Behind("a\nb\n", "", 1, 2), rig.Behind("a", "", 1, 3), rig.Behind(rig.End, "", api.More, 3),
		rig.Behind(rig.Piece, "a,,\n", 0, 1), rig.Behind("b\n", "", 0, 2), rig.Behind("c\nd\n", "", api.Ended, 0))
	rig.HoldSteps(t, joins.Make(t, of(2)),
		rig.Behind("c\nd\n", "", 1, 2), rig.Behind("a\nb\n", "", 1, 3), rig.Behind(rig.End, "", api.Ended, 0))
}

// P14.2: several groups of a chunk come one behind the other
func TestSeveralGroupsInOneChunk(t *testing.T) {
	rig.HoldSteps(t, joins.Make(t, of(2)),
		rig.Behind("a,1\nb,2\nc,3\nd,4\ne,5\nf,6\ng,7\nh", "", 1, 22), rig.Behind("a\nb\nb,x\nd\nf,y\nf\ng\nx\nx\nx\n", "", api.More, 36),
		rig.Behind(rig.Piece, "a,1,\n", api.More, 32), rig.Behind(rig.Piece, "b,2,\n", api.More, 32), rig.Behind(rig.Piece, "b,2,x\n", api.More, 22),
		rig.Behind(rig.Piece, "d,4,\n", api.More, 15), rig.Behind(rig.Piece, "f,6,y\n", api.More, 15), rig.Behind(rig.Piece, "f,6,\n", 0, 8),
		rig.Behind("x\n", "", api.More, 9), rig.Behind(rig.Piece, "g,7,\n", 0, 5), rig.Fails(rig.End, "", api.ErrGroup))
}

// P14.2: those of input 0 in order, for each of them those of input 1
func TestPairsComeAPieceEach(t *testing.T) {
	for n := 1; n <= greatest; n++ {
		first, second := "", ""
		var want []string
		for i := range n {
			first += "k," + rig.Word(i) + "\n"
			second += "k," + strings.Repeat(",", n-i) + "\n"
			for j := range n {
				want = append(want, "k,"+rig.Word(i)+","+strings.Repeat(",", n-j)+"\n")
			}
		}
		for _, size := range []int{1, 9, 32} {
			d := joins.Drive(t, of(n))
			if d.RunOf(rig.Whole(first, second), size); !slices.Equal(d.Answers, want) || d.Seen.Need != api.Ended {
				t.Errorf("N %d, by %d bytes: %q; want %q", n, size, d.Answers, want)
			}
			d = joins.Drive(t, of(n))
			if d.RunOf(rig.Whole(first+"l\n", second+"l\n"), size); !slices.Equal(d.Answers, append(slices.Clone(want), "l,,\n")) {
				t.Errorf("N %d, by %d bytes: %q; want %q, and one of l", n, size, d.Answers, want)
			}
		}
	}
}

// P14.2: keys are parted by A, whichever byte that is, by the first one of a line
func TestEachByteMayPart(t *testing.T) {
	for c := range 256 {
		if c == 10 {
			continue
		}
		a, key := string([]byte{byte(c)}), "p"
		if a == key {
			key = "q"
		}
		first := a + "1\n" + key + a + "2" + a + "\n"
		second := "\n" + key + a + a + "\xff\n" + key + "\n"
		want := a + "1" + a + "\n" + key + a + "2" + a + a + a + "\xff\n" + key + a + "2" + a + a + "\n"
		for _, size := range []int{1, 32} {
			if seen := joins.RunOf(t, by(2, byte(c)), rig.Whole(first, second), size); seen != (rig.Seen{Out: want, Need: api.Ended}) {
				t.Errorf("A %d, %q, %q: %+v; want %q", c, first, second, seen, want)
			}
		}
	}
}

// P14.2: each of all 256 bytes, in keys and in rests
func TestEachByteButTenIsOfALine(t *testing.T) {
	for c := range 256 {
		if c == 10 {
			continue
		}
		b := string([]byte{byte(c)})
		for _, key := range []string{b, "k" + b, b + "k", b + b} {
			if c == ',' {
				key = "k"
			}
			first, second := key+","+b+"\n", key+",x"+b+",\n"
			if got, want := joins.ToldOfSome(t, of(1), 3, first, second), key+","+b+",x"+b+",\n"; got != want {
				t.Errorf("%q, %q: %q; want %q", first, second, got, want)
			}
		}
	}
}

// rising are keys that rise.
func rising() []string {
	keys := []string{"", "\x00", "\x00\x00", "\x00\xff", "\x01", "a", "a\x00", "a\x00\x00", "a\x01", "a!", "aa", "ab", "a\xff", "b", "ba"}
	for c := 'c'; c <= 255; c++ {
		keys = append(keys, string([]byte{byte(c)}))
	}
	return append(keys, "\xff\x00", "\xff\xff")
}

// P14.2: byte by byte, a beginning ahead of what goes on, whatever the rests are
func TestKeysRiseByteByByte(t *testing.T) {
	keys := rising()
	first, second, all := "", "", ""
	for i, key := range keys {
		rest := strings.Repeat("z", min(9, len(keys)-i))
		first += key + "," + rest + "\n"
		second += key + "\n"
		all += key + "," + rest + ",\n"
	}
	if got := joins.ToldOfSome(t, of(1), 32, first, second); got != all {
		t.Errorf("%q; want %q", got, all)
	}
	for i, key := range keys {
		for _, other := range keys[:i] {
			failed := rig.Seen{Need: api.Ended, Err: api.ErrOrder}
			if seen := joins.RunOf(t, of(1), rig.Whole(key+",\n"+other+",z\n", ""), 32); seen != failed {
				t.Errorf("%q, %q: %+v; want ErrOrder", key, other, seen)
			}
			whole := rig.Seen{Out: key + ",1,2\n", Need: api.Ended}
			if seen := joins.RunOf(t, of(1), rig.Whole(other+",z\n"+key+",1", key+",2"), 32); seen != whole {
				t.Errorf("%q, %q: %+v; want %+v", other, key, seen, whole)
			}
		}
	}
}

// P14.2: by its line, or by the input's end, in each of the inputs, and when that line is
// read, not ahead of that
func TestOrderIsBrokenByALineOfALesserKey(t *testing.T) {
	rig.HoldSteps(t, joins.Make(t, of(2)), rig.Behind("b\na", "", 0, 2), rig.Fails("\n", "", api.ErrOrder))
	rig.HoldSteps(t, joins.Make(t, of(2)), rig.Behind("b\na", "", 0, 2), rig.Fails(rig.End, "", api.ErrOrder))
	rig.HoldSteps(t, joins.Make(t, of(2)), rig.Fails("b\na\nc\n", "", api.ErrOrder))
	rig.HoldSteps(t, joins.Make(t, of(2)), rig.Behind("b\nb\n", "", 0, 2), rig.Fails("\n", "", api.ErrOrder))
	rig.HoldSteps(t, joins.Make(t, of(2)),
		rig.Behind("b\n", "", 0, 1), rig.Behind(rig.End, "", 1, 1), rig.Behind("b\n", "", 1, 2), rig.Behind("a", "", 1, 3), rig.Fails(rig.End, "", api.ErrOrder))
	rig.HoldSteps(t, joins.Make(t, of(2)),
		rig.Behind("a\nb\na\n", "", 1, 3), rig.Behind("a\n", "", 1, 4), rig.Behind("b\n", "", api.More, 5), rig.Fails(rig.Piece, "a,,\n", api.ErrOrder))
	rig.HoldSteps(t, joins.Make(t, of(2)),
		rig.Behind("a\nb\na\n", "", 1, 3), rig.Behind("b\n", "", 1, 4), rig.Fails("c\n", "", api.ErrOrder))
	rig.HoldSteps(t, joins.Make(t, of(2)),
		rig.Behind("a,1\na,2\nb\nc\n", "", 1, 8), rig.Behind("a\nb\na\n", "", api.More, 11), rig.Behind(rig.Piece, "a,1,\n", api.More, 11),
		rig.Fails(rig.Piece, "a,2,\n", api.ErrOrder))
	rig.HoldSteps(t, joins.Make(t, of(2)),
		rig.Behind("a\nb\n", "", 1, 2), rig.Behind("a\nb\na\n", "", api.More, 5), rig.Behind(rig.Piece, "a,,\n", 0, 3), rig.Fails("c\n", "", api.ErrOrder))
	rig.HoldSteps(t, joins.Make(t, of(2)),
		rig.Behind("a\nb\n", "", 1, 2), rig.Behind("a\nb\na\n", "", api.More, 5), rig.Behind(rig.Piece, "a,,\n", 0, 3), rig.Fails(rig.End, "", api.ErrOrder))
}

// P14.2: by the line behind N, in each of the inputs, when that is read
func TestAGroupIsTooGreatByTheLineBehindN(t *testing.T) {
	for n := 1; n <= greatest; n++ {
		for i := range n {
			group := strings.Repeat("k\n", i) + "k,x\n" + strings.Repeat("k\n", n-1-i)
			for _, ahead := range []bool{false, true} {
				d := joins.Drive(t, of(n))
				if ahead {
					d.Feed("k\nl\n")
				}
				d.Feed(group)
				before := d.Seen
				if before.Err != api.OK || before.Out != "" || ahead != (before.Need == 1) {
					t.Fatalf("N %d: %+v", n, before)
				}
				d.Feed("k,")
				if d.Seen.Held != before.Held+2 || d.Seen.Err != api.OK {
					t.Fatalf("N %d, a line that is begun: %+v; ahead of it %+v", n, d.Seen, before)
				}
				if d.Feed("\n"); d.Seen != (rig.Seen{Need: api.Ended, Err: api.ErrGroup}) {
					t.Fatalf("N %d, a line more: %+v; want ErrGroup, and nothing held", n, d.Seen)
				}
				d.Pester()
			}
		}
	}
	rig.HoldSteps(t, joins.Make(t, of(1)), rig.Behind("a\nb\nb\n", "", 1, 3), rig.Behind("a\nb\n", "", api.More, 5), rig.Fails(rig.Piece, "a,,\n", api.ErrGroup))
	rig.HoldSteps(t, joins.Make(t, of(1)), rig.Behind("a\na", "", 0, 2), rig.Fails(rig.End, "", api.ErrGroup))
	rig.HoldSteps(t, joins.Make(t, of(1)),
		rig.Behind("a\nb\n", "", 1, 2), rig.Behind("a\nb\nb", "", api.More, 5), rig.Behind(rig.Piece, "a,,\n", 0, 3), rig.Behind(rig.End, "", 1, 3),
		rig.Fails(rig.End, "", api.ErrGroup))
}

// P14.2: of 64 bytes as of fewer, and by the 65th it fails, whichever input that is of
func TestALineIsTooLongByItsByte65(t *testing.T) {
	for _, ahead := range [][]string{{}, {"a\n"}, {"a\nb\n"}, {"a\nb\n", "a\n"}, {"a\nb\n", "a\nb\n"}, {"a\nb\n", "a\nb\n", "c\n"}} {
		for _, long := range []string{rig.Word(64), "z," + rig.Word(62), strings.Repeat(",", 64), strings.Repeat("\x00", 64)} {
			d := joins.Drive(t, of(3))
			for _, chunk := range ahead {
				d.Feed(chunk)
			}
			port, before := d.Seen.Need, d.Seen.Out
			d.Feed(long[:32])
			d.Feed(long[32:])
			if d.Seen.Need != port || d.Seen.Err != api.OK {
				t.Fatalf("behind %q, by 64 bytes: %+v", ahead, d.Seen)
			}
			d.Feed("x")
			if d.Seen != (rig.Seen{Out: before, Need: api.Ended, Err: api.ErrLong}) {
				t.Fatalf("behind %q, by 65 bytes: %+v; want ErrLong, and nothing held", ahead, d.Seen)
			}
			d.Pester()
		}
	}
}

// P14.2: with the byte that is too much there come others, ends of lines too
func TestALineThatIsTooLongFailsInAnyChunk(t *testing.T) {
	joins.HoldTooLong(t, of(2))
	joins.HoldTooLong(t, of(2), "a\nb\n")
}

// P14.2: what is begun of a line that comes to be too long waits, as long as its input is
// not read
func TestALineThatIsTooLongFailsWhenItIsRead(t *testing.T) {
	half := rig.Word(29)
	rig.HoldSteps(t, joins.Make(t, of(2)),
		rig.Behind("a\n", "", 0, 1), rig.Behind("b\n"+half, "", 1, 31), rig.Behind("a\nb\n", "", api.More, 33), rig.Behind(rig.Piece, "a,,\n", 0, 31),
		rig.Behind(rig.Word(32), "", 0, 63), rig.Behind("123", "", 0, 66), rig.Fails("4", "", api.ErrLong))
	rig.HoldSteps(t, joins.Make(t, of(2)),
		rig.Behind("a\n", "", 0, 1), rig.Behind("b\n"+half, "", 1, 31), rig.Behind(rig.End, "", api.Ended, 0))
	rig.HoldSteps(t, joins.Make(t, of(2)),
		rig.Behind("b\nc\n", "", 1, 2), rig.Behind("c\nd\n"+rig.Word(27), "", 0, 30), rig.Behind("d\n", "", api.More, 31),
		rig.Behind(rig.Piece, "c,,\n", 0, 29), rig.Behind("e\n", "", 1, 30), rig.Behind(rig.Word(32), "", 1, 62), rig.Fails("123456", "", api.ErrLong))
}

// P14.2: chunks of as many bytes as there may be, also of nothing but ends of lines
func TestFullChunksComeWhole(t *testing.T) {
	ends := strings.Repeat("\n", 32)
	rig.HoldSteps(t, joins.Make(t, of(greatest)), rig.Fails(ends, "", api.ErrGroup))
	rig.HoldSteps(t, joins.Make(t, of(greatest)), rig.Behind("a", "", 0, 1), rig.Fails(ends, "", api.ErrOrder))
	rig.HoldSteps(t, joins.Make(t, of(greatest)),
		rig.Behind("a\nb", "", 0, 2), rig.Behind(ends, "", 1, 2), rig.Behind("a\nb\n", "", api.More, 4), rig.Fails(rig.Piece, "a,,\n", api.ErrOrder))
	rig.HoldSteps(t, joins.Make(t, of(greatest)), rig.Behind("a\n", "", 0, 1), rig.Behind(rig.End, "", 1, 1), rig.Fails(ends, "", api.ErrGroup))
	first := "a\nb\nc\nd\ne\nf\ng\nh\ni\nj\nk\nl\nm\nn\no\np\n"
	for n := 1; n <= greatest; n++ {
		want := strings.ReplaceAll(first, "\n", ",,\n")
		if seen := joins.RunOf(t, of(n), rig.Whole(first, first), 32); seen != (rig.Seen{Out: want, Need: api.Ended}) {
			t.Errorf("N %d: %+v; want %q", n, seen, want)
		}
	}
}

// P14.3: what waits, what is begun, and both groups, each by itself; while pairs are due
// all of both groups
func TestHeldCountsWhatWaitsAndWhatIsBegunAndBothGroups(t *testing.T) {
	rig.HoldSteps(t, joins.Make(t, of(2)),
		rig.Behind("ab", "", 0, 2), rig.Behind(",c\n", "", 0, 4), rig.Behind("ab\n", "", 0, 6), rig.Behind("x", "", 0, 7), rig.Behind("y\nzz\n", "", 1, 10),
		rig.Behind("ab,12", "", 1, 15), rig.Behind("\n", "", 1, 15), rig.Behind("ab,3\nx,9\nq", "", api.More, 23),
		rig.Behind(rig.Piece, "ab,c,12\n", api.More, 23), rig.Behind(rig.Piece, "ab,c,3\n", api.More, 23), rig.Behind(rig.Piece, "ab,,12\n", api.More, 23),
		rig.Behind(rig.Piece, "ab,,3\n", 1, 8), rig.Fails("\n", "", api.ErrOrder))
}

// P14.3: the most that may come to be held
func TestWhatIsHeldIsWithinTheBound(t *testing.T) {
	half := rig.Word(32)
	for n := 1; n <= greatest; n++ {
		d := joins.Drive(t, of(n))
		for range 2 {
			for range n {
				d.Feed(half)
				d.Feed(half)
				d.Feed("\n")
			}
			d.Feed("z" + half[1:])
			d.Feed(half)
			if d.Seen.Need == 0 {
				d.Feed("\n" + rig.Word(31))
			}
		}
		bound, _ := params.Bound(of(n))
		if want := 2*64*n + 95 + 64; d.Seen.Held != want || d.Seen.Held > bound || bound != 2*(64*n+96) {
			t.Errorf("N %d: Held %d; want %d, at most %d", n, d.Seen.Held, want, bound)
		}
		outs, e := d.Machine.Feed(1, []byte("\n"+rig.Word(31)))
		for k := range n * n {
			want := 2*64*n + 95 + 95
			if outs != nil && k == 0 || e != api.OK || d.Machine.Need() != api.More || d.Machine.Held() != want || want > bound {
				t.Fatalf("N %d, %d pairs told: %v, Need %d, Held %d; want %d", n, k, e, d.Machine.Need(), d.Machine.Held(), want)
			}
			outs, e = d.Machine.More()
		}
		if d.Machine.Need() != 0 || d.Machine.Held() != 95+95 {
			t.Errorf("N %d, behind the pairs: Need %d, Held %d; want 0, 190", n, d.Machine.Need(), d.Machine.Held())
		}
	}
}

// P14.4: of each input
func TestChunksOfMaxChunkBytesAreTakenAndNoGreaterOnes(t *testing.T) {
	joins.HoldChunkLimits(t, of(1), of(2), of(greatest))
	for port := range 2 {
		m := ready(t, port)
		for _, n := range []int{0, 33, 34, 64, 96, 1000} {
			if outs, e := m.Feed(port, []byte(strings.Repeat("z", n))); outs != nil || e != api.ErrArg || m.Need() != port {
				t.Errorf("input %d, %d bytes: %+v, %v, Need %d; want ErrArg", port, n, outs, e, m.Need())
			}
		}
		held := m.Held()
		if outs, e := m.Feed(port, []byte(strings.Repeat("z", 32))); outs != nil || e != api.OK || m.Held() != held+32 {
			t.Errorf("input %d, 32 bytes: %+v, %v, Held %d", port, outs, e, m.Held())
		}
	}
}

// P14.4: ahead of each step, and behind the last one
func TestRefusalsChangeNothing(t *testing.T) {
	for _, l := range lists() {
		for _, ins := range l.endings() {
			if l.isSmall() {
				joins.HoldRefusalsOf(t, of(l.n), ins)
			}
		}
	}
}

// ready answers a join that reads this input, and has a line of a group of it.
func ready(t *testing.T, port int) api.Machine {
	t.Helper()
	m := joins.Make(t, of(2))
	for range port {
		rig.HoldSteps(t, m, rig.Behind("k,1\nl,\nj", "", 1, 6))
	}
	rig.HoldSteps(t, m, rig.Behind("k,2\n", "", port, 3+6*port))
	return m
}

// P14.4: one by one, while each input is read: the other one, which has ended or not,
// such as there are not; chunks of no bytes, and of too many; More
func TestEachUndueCallIsRefused(t *testing.T) {
	for port := range 2 {
		for _, call := range rig.UndueCallsOf(port) {
			m := ready(t, port)
			for _, chunk := range []string{"", "k"} {
				if chunk != "" {
					m.Feed(port, []byte(chunk))
				}
				rig.HoldUndue(t, m, call)
			}
		}
	}
}

// P14.4: of input 0, while 1 is read
func TestAnInputThatHasEndedTellsNoMore(t *testing.T) {
	m := joins.Make(t, of(2))
	rig.HoldSteps(t, m, rig.Behind("a\nb", "", 0, 2), rig.Behind(rig.End, "", 1, 2))
	for _, chunk := range []string{"c\n", "\n", "c"} {
		if outs, e := m.Feed(0, []byte(chunk)); outs != nil || e != api.ErrArg {
			t.Errorf("Feed of input 0 behind its end: %+v, %v; want ErrArg", outs, e)
		}
		if outs, e := m.End(0); outs != nil || e != api.ErrArg {
			t.Errorf("End of input 0 behind its end: %+v, %v; want ErrArg", outs, e)
		}
	}
	rig.HoldSteps(t, m, rig.Behind("b\n", "", 1, 3), rig.Behind("c\n", "", api.More, 3), rig.Behind(rig.Piece, "b,,\n", api.Ended, 0))
}

// P14.4: neither of both, while pieces are due
func TestNoInputIsTakenWhilePiecesAreDue(t *testing.T) {
	for _, ended := range []bool{false, true} {
		m := joins.Make(t, of(2))
		rig.HoldSteps(t, m, rig.Behind("a,1\na,2\nb\n", "", 1, 7))
		if rig.HoldSteps(t, m, rig.Behind("a,3\n", "", 1, 10)); ended {
			rig.HoldSteps(t, m, rig.Behind(rig.End, "", api.More, 10))
		} else {
			rig.HoldSteps(t, m, rig.Behind("c\n", "", api.More, 11))
		}
		for _, pair := range []string{"a,1,3\n", "a,2,3\n"} {
			for _, call := range rig.UndueCallsOf(-4)[1:] {
				rig.HoldUndue(t, m, call)
			}
			if outs, e := m.More(); rig.Text(outs) != pair || e != api.OK {
				t.Errorf("%q, %v; want %q", rig.Text(outs), e, pair)
			}
		}
		if m.Need() != 0 {
			t.Errorf("Need %d behind the pairs; want 0", m.Need())
		}
	}
}

// P14.4: whatever is called, of whichever input
func TestBehindTheEndAndBehindAFailureAllIsRefused(t *testing.T) {
	for _, steps := range [][]rig.Step{
		{rig.Behind(rig.End, "", api.Ended, 0)},
		{rig.Behind("a\n", "", 0, 1), rig.Behind(rig.End, "", 1, 1), rig.Behind(rig.End, "", api.Ended, 0)},
		{rig.Behind("a", "", 0, 1), rig.Behind(rig.End, "", 1, 1), rig.Behind("a\nb\nc", "", api.More, 4), rig.Behind(rig.Piece, "a,,\n", api.Ended, 0)},
		{rig.Fails("b\na\n", "", api.ErrOrder)},
		{rig.Behind("a\nb\n", "", 1, 2), rig.Fails("b\na\n", "", api.ErrOrder)},
		{rig.Fails("a\na\na\n", "", api.ErrGroup)},
		{rig.Behind("a\nb\na\n", "", 1, 3), rig.Behind("a\nb\n", "", api.More, 5), rig.Fails(rig.Piece, "a,,\n", api.ErrOrder)},
		{rig.Behind(rig.Word(32), "", 0, 32), rig.Behind(rig.Word(32), "", 0, 64), rig.Fails("\x00", "", api.ErrLong)},
		{rig.Behind("a\nb\n", "", 1, 2), rig.Behind(rig.Word(32), "", 1, 34), rig.Behind(rig.Word(32), "", 1, 66), rig.Fails("a\n", "", api.ErrLong)},
	} {
		m := joins.Make(t, of(2))
		rig.HoldSteps(t, m, steps...)
		for range 2 {
			for port := range 2 {
				rig.HoldDone(t, m, rig.FeedOf(port, []byte("a\n")))
				rig.HoldDone(t, m, rig.Call{Name: "End", Make: func(m api.Machine) ([]api.Out, api.Errno) { return m.End(port) }})
			}
			for _, call := range rig.UndueCallsOf(-4) {
				rig.HoldDone(t, m, call)
			}
		}
	}
}

// P14.4
func TestMachinesShareNothing(t *testing.T) {
	one, other := joins.Drive(t, of(2)), joins.Drive(t, by(3, ':'))
	for _, chunk := range []string{"a,1\nb", ",2\nc\n", "a,4\nb\n", "c\n"} {
		one.Feed(chunk)
		other.Feed(strings.ToUpper(chunk))
	}
	third := joins.Drive(t, by(2, ';'))
	for _, d := range []*rig.Driver{third, one, other} {
		for d.Seen.Need != api.Ended {
			d.End()
		}
	}
	if one.Seen.Out != "a,1,4\nb,2,\nc,,\n" || other.Seen.Out != "C::\n" || third.Seen.Out != "" {
		t.Errorf("%q, %q, %q", one.Seen.Out, other.Seen.Out, third.Seen.Out)
	}
}

// P14.4: what is written over a chunk behind Feed plays no part, nor what is written over
// the parameters' bytes behind New
func TestWhatIsHandedInIsNeitherKeptNorChanged(t *testing.T) {
	p := of(2)
	m, _ := New(p)
	p.A[0] = '?'
	chunk := make([]byte, 4, 8)
	told := ""
	for _, text := range []string{"ab,c", "\nb,1", "\nb,2", "ab,x", "\nb\nc", "\nd\ne", "\nz\nz"} {
		copy(chunk, text)
		outs, e := m.Feed(m.Need(), chunk)
		if string(chunk) != text || e != api.OK {
			t.Errorf("%q is %q behind Feed: %v", text, chunk, e)
		}
		copy(chunk[:8], "!!!!!!!!")
		for m.Need() == api.More {
			outs, _ = m.More()
			told += rig.Text(outs)
			for _, o := range outs {
				copy(o.Bytes[:cap(o.Bytes)], "????????????????")
			}
		}
	}
	if told != "ab,c,x\nb,1,\nb,2,\n" || m.Need() != 0 || m.Held() != 5 {
		t.Errorf("%q, Need %d, Held %d", told, m.Need(), m.Held())
	}
}

// P14.4: answers that are kept stay as they are, whatever comes behind them
func TestAnswersAreNewMemory(t *testing.T) {
	for size := 1; size <= api.MaxChunk; size++ {
		for _, l := range lists() {
			if l.isSmall() {
				joins.HoldAnswersOf(t, of(l.n), rig.Whole(l.first, l.second), size)
			}
		}
	}
}

// P14.4: no two answers share memory, nor what stands behind it
func TestAnswersShareNothing(t *testing.T) {
	m := joins.Make(t, of(3))
	var kept []api.Out
	for _, chunk := range []string{"a,1\na,2\na,1\nb,7\nc\n", "a,1\na,2\nb\nb\nc\n"} {
		m.Feed(m.Need(), []byte(chunk))
		for m.Need() == api.More {
			outs, _ := m.More()
			kept = append(kept, outs...)
		}
	}
	if len(kept) != 8 {
		t.Fatalf("%+v", kept)
	}
	rig.HoldApart(t, kept...)
}

// P14.5: each input by chunks of a size of its own
func TestEachInputComesByChunksOfItsOwn(t *testing.T) {
	for _, l := range lists() {
		for first := 1; first <= api.MaxChunk; first++ {
			second := (first+12)%api.MaxChunk + 1
			if l.isSmall() || first%8 == 1 {
				holdBySizes(t, l, first, second)
			}
		}
	}
}

// holdBySizes holds what comes of inputs by chunks of a size each against what comes of
// them byte by byte.
func holdBySizes(t *testing.T, l list, sizes ...int) {
	t.Helper()
	want := joins.RunOf(t, of(l.n), rig.Whole(l.first, l.second), 1)
	d := joins.Drive(t, of(l.n))
	for left := []string{l.first, l.second}; d.Seen.Need != api.Ended; {
		port := d.Seen.Need
		if left[port] == "" {
			d.End()
			continue
		}
		size := min(sizes[port], len(left[port]))
		d.Feed(left[port][:size])
		left[port] = left[port][size:]
	}
	if d.Seen.Held = want.Held; d.Seen != want {
		t.Errorf("%+v by %d bytes: %+v; byte by byte %+v", l, sizes, d.Seen, want)
	}
}

// P14.6: of the input that is read, and of the other one, too
func TestMoreOfInputsGoesOnFromWhatCame(t *testing.T) {
	for _, l := range lists() {
		for _, ins := range l.endings() {
			if l.isSmall() {
				joins.HoldGrowthOf(t, of(l.n), ins)
			}
		}
	}
}

// linesOf are a text's lines.
func linesOf(text string) []string {
	if text == "" {
		return nil
	}
	return strings.Split(strings.TrimSuffix(text, "\n"), "\n")
}

// allPairs are all pairs of lines of one key, without a look at groups.
func allPairs(first, second string, a byte) string {
	out := ""
	for _, text := range linesOf(first) {
		for _, other := range linesOf(second) {
			if keyOf(text, a) == keyOf(other, a) {
				out += pairsOf([]string{text}, []string{other}, a)
			}
		}
	}
	return out
}

// counted are lines of keys that rise, of each so many as a digit of the number to the
// base 3 says.
func counted(number int, tag string) string {
	text := ""
	for _, key := range []string{"", "a", "a!", "b"} {
		text += []string{"", key + "\n", key + "," + tag + "\n" + key + ",," + tag + "\n"}[number%3]
		number /= 3
	}
	return text
}

// P14.7: without the denotation, and without what drives by it: of all keys and counts
func TestAllPairsOfOneKeyCome(t *testing.T) {
	for i := range 81 {
		for j := range 81 {
			first, second := counted(i, "1"), counted(j, "2")
			if got, want := joins.ToldOfSome(t, of(2), 32, first, second), allPairs(first, second, ','); got != want {
				t.Errorf("%q, %q: %q; want %q", first, second, got, want)
			}
		}
	}
}

// P14.7: of those of the lists that rise, and have no group that is too great
func TestAllPairsOfListsCome(t *testing.T) {
	count := 0
	for _, l := range lists() {
		ins := rig.Whole(l.first, l.second)
		if rowOf(ins[0], l.n, ',').stop != none || rowOf(ins[1], l.n, ',').stop != none {
			continue
		}
		count++
		for _, size := range []int{1, 3, 31, 32} {
			if got, want := joins.ToldOfSome(t, of(l.n), size, l.first, l.second), allPairs(l.first, l.second, ','); got != want {
				t.Errorf("%+v by %d bytes: %q; want %q", l, size, got, want)
			}
		}
	}
	if count < 20 {
		t.Errorf("%d lists alone", count)
	}
}

// P14.2 and P14.7: of all pairs of inputs of a few bytes
func TestSmallInputsAreJoined(t *testing.T) {
	for _, first := range rig.SmallInputs(4) {
		for _, second := range rig.SmallInputs(4) {
			ins := rig.Whole(first, second)
			for n := 1; n <= 2; n++ {
				seen := joins.RunOf(t, by(n, ' '), ins, 32)
				if rowOf(ins[0], n, ' ').stop == none && rowOf(ins[1], n, ' ').stop == none && seen.Out != allPairs(first, second, ' ') {
					t.Errorf("N %d, %q, %q: %+v", n, first, second, seen)
				}
			}
		}
	}
}

// P14.7: lines of one key that are too many, or do not rise, where the other input has
// ended ahead of them, or where they come
func TestWhatDoesNotRiseComesToNoMoreThanPairs(t *testing.T) {
	for _, first := range rig.SmallInputs(4) {
		seen := joins.RunOf(t, by(1, ' '), rig.Whole(first, "\n1\n11\n111\n1111\n2\n"), 32)
		if all := allPairs(first, "\n1\n11\n111\n1111\n", ' '); !strings.HasPrefix(all, seen.Out) {
			t.Errorf("%q: %+v; want a beginning of %q", first, seen, all)
		}
	}
}

// sorted is a text with its lines sorted by their keys.
func sorted(text string, a byte) string {
	lines := linesOf(text)
	slices.SortStableFunc(lines, func(one, other string) int { return strings.Compare(keyOf(one, a), keyOf(other, a)) })
	return strings.Join(lines, "\n")
}

// P14.2 to P14.7, of any bytes
func FuzzJoin(f *testing.F) {
	f.Add(uint8(1), byte(','), []byte("a\nb,1\nx\n"), []byte("b,2\nx"), []byte{1, 2, 3}, uint8(3), false)
	f.Add(uint8(3), byte(0), []byte("a\nb\x00c\xff\n\n\nd"), []byte("\n\n\x00\na\nd"), []byte{31, 0}, uint8(1), true)
	f.Add(uint8(0), byte(1), []byte(""), []byte("a"), []byte{}, uint8(0), false)
	f.Add(uint8(14), byte(255), []byte("a\n"+rig.Word(64)+"\n"+rig.Word(70)), []byte("a\n\xff"), []byte{7}, uint8(2), true)
	f.Fuzz(func(t *testing.T, n uint8, a byte, first, second, cuts []byte, ended uint8, sorts bool) {
		if len(first)+len(second) > 2048 || a == 10 {
			return
		}
		texts := []string{string(first), string(second)}
		if sorts {
			texts = []string{sorted(texts[0], a), sorted(texts[1], a)}
		}
		ins := rig.Whole(texts...)
		for i := range ins {
			ins[i].Ended = ended>>i&1 == 1
		}
		p := by(int(n)%greatest+1, a)
		seen := joins.RunOf(t, p, ins, rig.Sizes(cuts)...)
		once := joins.RunOf(t, p, ins, 1)
		if seen.Held = once.Held; seen != once {
			t.Errorf("%+v, %v: %+v; byte by byte %+v", p, ins, seen, once)
		}
	})
}
