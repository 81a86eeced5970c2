package line

import (
	"bytes"
	"slices"
	"strings"
	"testing"

	"penstock/api"
)

// letters makes a text of so many letters, no two of which side by side are alike.
func letters(n int) string {
	return strings.Repeat("abcdefghijklmnopqrstuvwxyz", n/26+1)[:n]
}

// wantCut hands a piece to a splitter, and holds what it answers against what it should.
func wantCut(t *testing.T, s *Splitter, piece string, e api.Errno, lines ...string) {
	t.Helper()
	got, gotE := s.Cut([]byte(piece))
	if gotE != e || !slices.Equal(got, lines) {
		t.Errorf("Cut(%q): %q, %v; want %q, %v", piece, got, gotE, lines, e)
	}
}

// wantRest asks for Rest, behind Begun, and holds it against the line that should be begun.
func wantRest(t *testing.T, s *Splitter, want string) {
	t.Helper()
	if n := s.Begun(); n != len(want) {
		t.Errorf("Begun: %d; want %d", n, len(want))
	}
	if got, ok := s.Rest(); got != want || ok != (want != "") {
		t.Errorf("Rest: %q, %v; want %q, %v", got, ok, want, want != "")
	}
	if n := s.Begun(); n != 0 {
		t.Errorf("Begun behind Rest: %d; want 0", n)
	}
	if got, ok := s.Rest(); got != "" || ok {
		t.Errorf("Rest again: %q, %v; want none, false", got, ok)
	}
}

// wantFailed holds all that a splitter answers against what one answers that has failed.
func wantFailed(t *testing.T, s *Splitter) {
	t.Helper()
	for range 2 {
		for _, piece := range [][]byte{nil, {}, []byte("\n"), []byte("a"), []byte("a\nb\n"), []byte(letters(200))} {
			if lines, e := s.Cut(piece); len(lines) != 0 || e != api.ErrLong {
				t.Errorf("Cut(%q) of one that has failed: %q, %v; want none, ErrLong", piece, lines, e)
			}
			wantRest(t, s, "")
		}
	}
}

// P2.1, P2.2: the chapter's example.
func TestCutTellsTheLinesThatAreEnded(t *testing.T) {
	var s Splitter
	wantCut(t, &s, "ab\ncd", api.OK, "ab")
	if n := s.Begun(); n != 2 {
		t.Errorf("Begun: %d; want 2", n)
	}
	wantCut(t, &s, "\n\ne", api.OK, "cd", "")
	wantRest(t, &s, "e")
}

// P2.1
func TestCutOfManyLinesInOnePiece(t *testing.T) {
	var s Splitter
	var lines []string
	for i := range 1000 {
		lines = append(lines, letters(i%(api.MaxLine+1)))
	}
	wantCut(t, &s, strings.Join(lines, "\n")+"\n", api.OK, lines...)
	wantRest(t, &s, "")
}

// P2.1
func TestCutOfNoBytes(t *testing.T) {
	for _, piece := range [][]byte{nil, {}} {
		var s Splitter
		if lines, e := s.Cut(piece); len(lines) != 0 || e != api.OK {
			t.Errorf("Cut(%v): %q, %v; want none, OK", piece, lines, e)
		}
		wantCut(t, &s, "ab", api.OK)
		if lines, e := s.Cut(piece); len(lines) != 0 || e != api.OK || s.Begun() != 2 {
			t.Errorf("Cut(%v) behind ab: %q, %v, %d begun; want none, OK, 2", piece, lines, e, s.Begun())
		}
		wantCut(t, &s, "c\n", api.OK, "abc")
	}
}

// P2.1
func TestCutOfEndsAlone(t *testing.T) {
	var s Splitter
	wantCut(t, &s, "\n", api.OK, "")
	wantRest(t, &s, "")
	wantCut(t, &s, "\n", api.OK, "")
	wantCut(t, &s, "\n\n\n", api.OK, "", "", "")
	wantRest(t, &s, "")
}

// P2.1: byte 10 ends a line, and none of the others does.
func TestEveryByteButTenIsOfALine(t *testing.T) {
	for n := range 256 {
		var s Splitter
		c := string([]byte{byte(n)})
		if n == 10 {
			wantCut(t, &s, "a"+c+"b", api.OK, "a")
			wantRest(t, &s, "b")
			continue
		}
		wantCut(t, &s, "a"+c+"b", api.OK)
		wantCut(t, &s, "\n"+c, api.OK, "a"+c+"b")
		wantRest(t, &s, c)
	}
}

// P2.1, P2.2: lines that may be, with their end in the same piece, in a later one, and never.
func TestLinesOfUpToMaxLineBytes(t *testing.T) {
	for _, size := range []int{0, 1, 2, 31, 32, 33, 63, 64} {
		text := letters(size)
		var same, later, never Splitter
		wantCut(t, &same, text+"\n", api.OK, text)
		wantRest(t, &same, "")
		wantCut(t, &later, text, api.OK)
		if n := later.Begun(); n != size {
			t.Errorf("Begun: %d; want %d", n, size)
		}
		wantCut(t, &later, "\nx", api.OK, text)
		wantRest(t, &later, "x")
		wantCut(t, &never, text, api.OK)
		wantRest(t, &never, text)
	}
}

// P2.1: a line that is too long, with its end in the same piece, in a later one, and never.
func TestLinesOfMoreThanMaxLineBytes(t *testing.T) {
	for _, size := range []int{65, 66, 128, 129, 1 << 16} {
		for _, behind := range []string{"", "\n", "\nab\n"} {
			var s Splitter
			wantCut(t, &s, letters(size)+behind, api.ErrLong)
			wantFailed(t, &s)
		}
	}
}

// P2.1: it is the byte behind the 64th by which a splitter fails, whichever piece that comes in.
func TestTheByteThatIsTooMuch(t *testing.T) {
	for first := range 65 {
		var s Splitter
		text := letters(65)
		wantCut(t, &s, text[:first], api.OK)
		wantCut(t, &s, text[first:64], api.OK)
		if n := s.Begun(); n != 64 {
			t.Fatalf("Begun: %d; want 64", n)
		}
		ended := s
		wantCut(t, &ended, "\n", api.OK, text[:64])
		wantCut(t, &s, text[64:], api.ErrLong)
		wantFailed(t, &s)
	}
}

// P2.1: what was ended ahead of the byte that is too much is told, what stands behind it is not.
func TestLinesAheadOfOneThatIsTooLong(t *testing.T) {
	var s Splitter
	wantCut(t, &s, "x\n"+letters(64)+"\n", api.OK, "x", letters(64))
	wantCut(t, &s, "ab", api.OK)
	wantCut(t, &s, "c\n\nd\n"+letters(65)+"\ne\nf", api.ErrLong, "abc", "", "d")
	wantFailed(t, &s)
}

// P2.2
func TestRestTakesTheLineThatIsBegun(t *testing.T) {
	var s Splitter
	wantRest(t, &s, "")
	wantCut(t, &s, "a\nbc", api.OK, "a")
	wantRest(t, &s, "bc")
	wantCut(t, &s, "d\n", api.OK, "d")
	wantRest(t, &s, "")
	wantCut(t, &s, letters(64), api.OK)
	wantRest(t, &s, letters(64))
	wantCut(t, &s, letters(64)+"\n", api.OK, letters(64))
}

// P2.2
func TestBegunCountsEachByte(t *testing.T) {
	var s Splitter
	for n := range api.MaxLine + 1 {
		if got := s.Begun(); got != n {
			t.Errorf("Begun: %d; want %d", got, n)
		}
		if n < api.MaxLine {
			wantCut(t, &s, "\x00", api.OK)
		}
	}
	wantRest(t, &s, strings.Repeat("\x00", api.MaxLine))
}

// P2.3
func TestJoinPutsAnEndBehindEachLine(t *testing.T) {
	for _, c := range []struct {
		lines []string
		want  string
	}{
		{nil, ""},
		{[]string{}, ""},
		{[]string{""}, "\n"},
		{[]string{"", "", ""}, "\n\n\n"},
		{[]string{"a"}, "a\n"},
		{[]string{"a", "", "b"}, "a\n\nb\n"},
		{[]string{"", "ab", ""}, "\nab\n\n"},
		{[]string{"\x00\xff", "\xc3"}, "\x00\xff\n\xc3\n"},
		{[]string{"a\n", "\n"}, "a\n\n\n\n"},
		{[]string{letters(64), letters(65), letters(5000)}, letters(64) + "\n" + letters(65) + "\n" + letters(5000) + "\n"},
	} {
		if got := Join(c.lines...); string(got) != c.want {
			t.Errorf("Join(%q): %q; want %q", c.lines, got, c.want)
		}
	}
	if got := Join(); len(got) != 0 {
		t.Errorf("Join(): %q; want nothing", got)
	}
	if got := Join("a", "", "b"); string(got) != "a\n\nb\n" {
		t.Errorf(`Join("a", "", "b"): %q`, got)
	}
}

// P1, P2.4
func TestANilSplitterHasFailed(t *testing.T) {
	var s *Splitter
	if n := s.Begun(); n != 0 {
		t.Errorf("Begun: %d; want 0", n)
	}
	wantFailed(t, s)
}

// P2.4
func TestAZeroSplitterIsAsAtFirst(t *testing.T) {
	for _, s := range []*Splitter{new(Splitter), {}} {
		wantRest(t, s, "")
		wantCut(t, s, "a\nb", api.OK, "a")
		wantRest(t, s, "b")
	}
}

// P2.4
func TestCutKeepsNothingThatItIsHanded(t *testing.T) {
	var s Splitter
	whole := []byte("..ab\ncd..")
	lines, e := s.Cut(whole[2:7])
	if string(whole) != "..ab\ncd.." {
		t.Errorf("Cut changed its argument to %q", whole)
	}
	copy(whole, "xxxxxxxxx")
	if e != api.OK || !slices.Equal(lines, []string{"ab"}) {
		t.Errorf("after its argument was changed: %q, %v", lines, e)
	}
	wantCut(t, &s, "\n", api.OK, "cd")
}

// P2.4
func TestLinesStayAsTheyWereTold(t *testing.T) {
	var s Splitter
	first, _ := s.Cut([]byte("abc\ndef\ngh"))
	rest, _ := s.Rest()
	second, _ := s.Cut([]byte("uvw\nxyz\n"))
	wantCut(t, &s, strings.Repeat("#", 64), api.OK)
	if !slices.Equal(first, []string{"abc", "def"}) || rest != "gh" || !slices.Equal(second, []string{"uvw", "xyz"}) {
		t.Errorf("told %q, %q, %q", first, rest, second)
	}
	first[0] = "spoilt"
	wantRest(t, &s, strings.Repeat("#", 64))
}

// P2.4
func TestJoinAnswersNewMemory(t *testing.T) {
	lines := []string{"ab", "", "c"}
	got := Join(lines...)
	for i := range got[:cap(got)] {
		got[:cap(got)][i] = 'x'
	}
	if !slices.Equal(lines, []string{"ab", "", "c"}) || string(Join(lines...)) != "ab\n\nc\n" {
		t.Errorf("Join shares memory: %q, then %q", lines, Join(lines...))
	}
}

// P2.4: the line that is begun stands in an array, so that a copy has one of its own.
func TestACopyGoesOnByItself(t *testing.T) {
	var s Splitter
	wantCut(t, &s, "ab", api.OK)
	c := s
	wantCut(t, &s, "X", api.OK)
	wantCut(t, &c, "Y\n", api.OK, "abY")
	wantCut(t, &s, letters(62), api.ErrLong)
	wantCut(t, &c, "z", api.OK)
	wantRest(t, &c, "z")
	wantFailed(t, &s)
}

// P2.2: a splitter keeps nothing of the lines that it has told.
func TestASplitterWithoutALineIsAsAtFirst(t *testing.T) {
	var ended, rested, failed, other Splitter
	wantCut(t, &ended, "abc\n", api.OK, "abc")
	wantCut(t, &rested, "abc", api.OK)
	wantRest(t, &rested, "abc")
	if ended != (Splitter{}) || rested != (Splitter{}) {
		t.Errorf("kept: %v, %v", ended, rested)
	}
	wantCut(t, &failed, letters(65), api.ErrLong)
	wantCut(t, &other, strings.Repeat("#", 70), api.ErrLong)
	if failed != other {
		t.Errorf("kept: %v, %v", failed, other)
	}
}

// told is all that comes of a row of pieces.
type told struct {
	lines []string
	rest  string
	long  int // how many bytes came ahead of the piece that failed, or -1
	size  int // how many bytes that piece had
}

// tell hands pieces to a new splitter, all of them, and then asks for the rest.
func tell(t *testing.T, pieces [][]byte) told {
	t.Helper()
	var s Splitter
	got := told{long: -1}
	came := 0
	for _, p := range pieces {
		lines, e := s.Cut(p)
		if got.long >= 0 && (e != api.ErrLong || len(lines) > 0) {
			t.Fatalf("Cut(%q) of one that has failed: %q, %v", p, lines, e)
		}
		if e != api.OK && e != api.ErrLong {
			t.Fatalf("Cut(%q): %v", p, e)
		}
		if e == api.ErrLong && got.long < 0 {
			got.long, got.size = came, len(p)
		}
		got.lines = append(got.lines, lines...)
		came += len(p)
	}
	var ok bool
	if got.rest, ok = s.Rest(); ok != (got.rest != "") {
		t.Fatalf("Rest: %q, %v", got.rest, ok)
	}
	return got
}

// reckon says what comes of a text by the words of the chapter, and which byte of it is too much (or -1).
func reckon(text string) (lines []string, rest string, tooMuch int) {
	at := 0
	for {
		l, _, ended := strings.Cut(text[at:], "\n")
		if len(l) > 64 {
			return lines, "", at + 64
		}
		if !ended {
			return lines, l, -1
		}
		lines = append(lines, l)
		at += len(l) + 1
	}
}

// wantTold holds what comes of a text in these pieces against what is reckoned of it.
func wantTold(t *testing.T, text string, pieces [][]byte) {
	t.Helper()
	lines, rest, tooMuch := reckon(text)
	got := tell(t, pieces)
	if !slices.Equal(got.lines, lines) || got.rest != rest {
		t.Fatalf("%q in %d pieces: %q, rest %q; want %q, %q", text, len(pieces), got.lines, got.rest, lines, rest)
	}
	failedAsItShould := got.long <= tooMuch && tooMuch < got.long+got.size
	if tooMuch < 0 && got.long >= 0 || tooMuch >= 0 && !failedAsItShould {
		t.Fatalf("%q in %d pieces: failed in the piece at %d; want at byte %d", text, len(pieces), got.long, tooMuch)
	}
}

// texts are rows of lines of sizes about the edges, with and without an end behind the last one.
func texts() []string {
	sizes := []int{0, 1, 2, 63, 64, 65, 66, 130}
	all := []string{""}
	for _, a := range sizes {
		all = append(all, letters(a), letters(a)+"\n")
		for _, b := range sizes {
			all = append(all, letters(a)+"\n"+letters(b))
			for _, c := range sizes {
				all = append(all, letters(a)+"\n"+letters(b)+"\n"+letters(c)+"\n")
			}
		}
	}
	return all
}

// P2.5
func TestPiecesOfOneSize(t *testing.T) {
	for _, text := range texts() {
		for _, size := range []int{1, 2, 3, 5, 31, 32, 33, 63, 64, 65, 66, 1000} {
			wantTold(t, text, slices.Collect(slices.Chunk([]byte(text), size)))
		}
	}
}

// P2.5: cut at every place, with and without a piece of nothing there.
func TestTwoPieces(t *testing.T) {
	for _, text := range texts() {
		for at := range len(text) + 1 {
			b := []byte(text)
			wantTold(t, text, [][]byte{b[:at], b[at:]})
			wantTold(t, text, [][]byte{b[:at], nil, b[at:], {}})
		}
	}
}

// P2.5: every way to cut a short text.
func TestEveryWayToCut(t *testing.T) {
	for _, text := range []string{"ab\nc\n\nd\nef", "\n\na\nbcd\n\n", letters(62) + "\na\nbc\nd", "\n" + letters(58) + "ab\ncd"} {
		ahead := max(0, len(text)-10)
		for ways := range 1 << min(10, len(text)) {
			var pieces [][]byte
			from := 0
			for i := ahead + 1; i <= len(text); i++ {
				if ways>>(i-ahead-1)&1 == 1 || i == len(text) {
					pieces = append(pieces, []byte(text[from:i]))
					from = i
				}
			}
			wantTold(t, text, pieces)
		}
	}
}

// P2.6
func TestThereAndBack(t *testing.T) {
	for _, text := range texts() {
		if _, _, tooMuch := reckon(text); tooMuch >= 0 {
			continue
		}
		want := text
		if text != "" && !strings.HasSuffix(text, "\n") {
			want += "\n"
		}
		for _, size := range []int{1, 7, 32, 1000} {
			var s Splitter
			var all []string
			for p := range slices.Chunk([]byte(text), size) {
				lines, e := s.Cut(p)
				if e != api.OK {
					t.Fatalf("Cut(%q): %v", p, e)
				}
				all = append(all, lines...)
			}
			if rest, ok := s.Rest(); ok {
				all = append(all, rest)
			}
			if got := Join(all...); string(got) != want {
				t.Fatalf("%q comes back as %q", text, got)
			}
		}
	}
}

// P2.6: what Join made is cut into the lines that it was made of.
func TestBackAndThere(t *testing.T) {
	for n := range 66 {
		var lines []string
		for i := range n {
			lines = append(lines, letters((i*37+n)%65))
		}
		var s Splitter
		got, e := s.Cut(Join(lines...))
		if e != api.OK || !slices.Equal(got, lines) || s.Begun() != 0 {
			t.Errorf("%d lines: %q, %v, %d begun", n, got, e, s.Begun())
		}
	}
}

// FuzzPieces (P2.5, P2.6): any bytes, in any pieces.
func FuzzPieces(f *testing.F) {
	f.Add([]byte("ab\ncd\n\ne"), []byte{2, 0, 3})
	f.Add([]byte(letters(64)+"\n"+letters(65)+"\n"), []byte{63, 1, 1, 65})
	f.Fuzz(func(t *testing.T, text, cuts []byte) {
		var pieces [][]byte
		left := text
		for _, c := range cuts {
			n := min(int(c), len(left))
			pieces = append(pieces, bytes.Clone(left[:n]))
			left = left[n:]
		}
		wantTold(t, string(text), append(pieces, left))
	})
}
