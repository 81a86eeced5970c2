package spool

import (
	"fmt"
	"math"
	"slices"
	"strings"
	"testing"

	"penstock/api"
	"penstock/files"
	"penstock/rig"
)

// give hands on bytes of which nothing comes.
func give(t *testing.T, s *Sorter, text string) {
	t.Helper()
	for chunk := range slices.Chunk([]byte(text), 32) {
		if outs, e := s.Feed(0, chunk); len(outs) != 0 || e != api.OK {
			t.Fatalf("Feed of %q: %+v, error %d", chunk, outs, e)
		}
	}
}

// wantDisk holds how many calls a disk has counted, and which files are there, against
// what is written there.
func wantDisk(t *testing.T, d *files.Disk, calls int, live ...int) {
	t.Helper()
	if d.Calls() != calls || !slices.Equal(d.Live(), live) {
		t.Fatalf("%d calls, files %v; want %d, %v", d.Calls(), d.Live(), calls, live)
	}
}

// P18.2, P18.3: five lines of 64 bytes, by the words of the chapter's example.
func TestFiveLinesOfMaxLine(t *testing.T) {
	line := func(head string) string { return fill(head, 64) + "\n" }
	s, d := made(t, 0)
	give(t, s, line("c")+line("a")+line("e"))
	give(t, s, fill("b", 64))
	wantDisk(t, d, 0)
	rig.HoldSteps(t, s, rig.Behind("\n", "", 0, 64))
	wantDisk(t, d, 4, 1)
	give(t, s, line("d"))
	wantDisk(t, d, 4, 1)
	rig.HoldSteps(t, s, rig.Behind(rig.End, "", api.More, 128))
	wantDisk(t, d, 9, 1, 2)
	if got, want := diskOf(t, d), fmt.Sprintf("1:%q 2:%q ", line("a")+line("c")+line("e"), line("b")+line("d")); got != want {
		t.Fatalf("files %s; want %s", got, want)
	}
	for i, head := range []string{"a", "b", "c"} {
		rig.HoldSteps(t, s, rig.Behind(rig.Piece, line(head), api.More, 128))
		wantDisk(t, d, 10+i, 1, 2)
	}
	rig.HoldSteps(t, s, rig.Behind(rig.Piece, line("d"), api.More, 64))
	wantDisk(t, d, 13, 1, 2)
	rig.HoldSteps(t, s, rig.Behind(rig.Piece, line("e"), api.Ended, 0))
	wantDisk(t, d, 16)
	if e := s.Close(); e != api.OK || s.Raw() != 0 {
		t.Errorf("Close: error %d, Raw %d", e, s.Raw())
	}
	wantDisk(t, d, 16)
}

// P18.2, P18.5: the example of a call that fails.
func TestTheFourthLinesWriteFails(t *testing.T) {
	s, d := made(t, 0, fail(1, 7))
	give(t, s, spread(3, 64)+fill("b", 64))
	wantDisk(t, d, 0)
	rig.HoldSteps(t, s, rig.Fails("\n", "", api.ErrRaw))
	wantDisk(t, d, 2, 1)
	if s.Raw() != 7 {
		t.Errorf("Raw %d; want 7", s.Raw())
	}
	rig.HoldDone(t, s, rig.FeedOf(0, []byte("x")))
	if e := s.Close(); e != api.OK || s.Raw() != 7 {
		t.Errorf("Close: error %d, Raw %d", e, s.Raw())
	}
	wantDisk(t, d, 3)
}

// P18.2: the last run is spilt alone, by the input's end; its line has no end.
func TestTheLastLineAlone(t *testing.T) {
	last := fill("001", 61)
	for _, end := range []string{"", "\n"} {
		s, d := made(t, 1)
		give(t, s, spread(3, 64)+last+end)
		wantDisk(t, d, 4*len(end), d.Live()...)
		rig.HoldSteps(t, s, rig.Behind(rig.End, "", api.More, 64+61))
		wantDisk(t, d, 8, 1, 2)
		if got, want := diskOf(t, d), fmt.Sprintf("2:%q ", last+"\n"); !strings.HasSuffix(got, want) {
			t.Fatalf("files %s; want %s behind the first", got, want)
		}
	}
}

// P18.2: of lines that are alike that of the first run is told first: what is held behind
// it tells of which run the next line is.
func TestLinesThatAreAlikeKeepTheirOrder(t *testing.T) {
	for n, head := range []string{"a", "z"} {
		first := head + "\n" + strings.Repeat(fill("m", 64)+"\n", 3)
		second := strings.Repeat(fill("m", 60)+"\n", 2) + head + "\n" + strings.Repeat(fill("m", 62)+"\n", 2)
		third := strings.Repeat(fill("m", 59)+"\n", 3) + head + "\n"
		s, d := made(t, n)
		give(t, s, first+second+third)
		rig.HoldSteps(t, s,
			rig.Behind(rig.End, "", api.More, 3),
			rig.Behind(rig.Piece, head+"\n", api.More, 64+2),
			rig.Behind(rig.Piece, head+"\n", api.More, 64+[]int{60, 62}[n]+1),
			rig.Behind(rig.Piece, head+"\n", api.More, 64+[]int{60, 62}[n]+59))
		wantDisk(t, d, 22, 1, 2, 3)
	}
}

// P18.2: which files there are when the last merge begins, and how many calls there were.
func TestPasses(t *testing.T) {
	for _, c := range []struct {
		runs  int
		calls int
		live  []int
	}{
		{2, 2*4 + 2, []int{1, 2}},
		{3, 3*4 + 3, []int{1, 2, 3}},
		{4, 4*4 + merging(3, 9) + 2, []int{4, 5}},
		{5, 5*4 + merging(3, 9) + merging(2, 6) + 2, []int{6, 7}},
		{6, 6*4 + 2*merging(3, 9) + 2, []int{7, 8}},
		{7, 7*4 + 2*merging(3, 9) + 3, []int{7, 8, 9}},
		{9, 9*4 + 3*merging(3, 9) + 3, []int{10, 11, 12}},
		{10, 10*4 + 3*merging(3, 9) + merging(3, 27) + 2, []int{10, 14}},
		{12, 12*4 + 4*merging(3, 9) + merging(3, 27) + 2, []int{16, 17}},
	} {
		s, d := made(t, 0)
		give(t, s, runs(c.runs))
		wantDisk(t, d, 4*(c.runs-1), count(c.runs-1)...)
		s.End(0)
		live := slices.Sorted(slices.Values(c.live))
		wantDisk(t, d, c.calls, live...)
		for range 3*c.runs - 1 {
			s.More()
		}
		wantDisk(t, d, c.calls+3*c.runs-1, live...)
		s.More()
		wantDisk(t, d, c.calls+3*c.runs+len(live))
		if s.Need() != api.Ended {
			t.Errorf("%d runs: Need %d", c.runs, s.Need())
		}
	}
}

// merging is how many calls merge so many runs of so many lines in all to one: Create, for
// each run a Read and a Remove, for each line a Write and a Read.
func merging(runs, lines int) int { return 1 + 2*runs + 2*lines }

// count are the numbers from 1 on, so many.
func count(most int) []int {
	var all []int
	for no := 1; no <= most; no++ {
		all = append(all, no)
	}
	return all
}

// P18.2: one that is left over stays in its place, and its lines in theirs among those
// that are alike.
func TestOneThatIsLeftOverStays(t *testing.T) {
	line := fill("m", 64) + "\n"
	s, d := made(t, 0)
	give(t, s, strings.Repeat(line, 9)+fill("z", 64)+"\n"+line)
	rig.HoldSteps(t, s, rig.Behind(rig.End, "", api.More, 128))
	wantDisk(t, d, 3*4+3+merging(3, 9)+2, 4, 5)
	if got, want := diskOf(t, d), fmt.Sprintf("4:%q 5:%q ", line+fill("z", 64)+"\n", strings.Repeat(line, 9)); got != want {
		t.Fatalf("files %s; want %s", got, want)
	}
}

// callsOf is how many calls there are of a disk on which none fails.
func callsOf(n int, in rig.Input) int {
	return reckon(n, nil, in, len(in.Text)+1).calls
}

// P18.2, P18.5, P18.8: each call fails, one by one. Which files there are then, and how
// many calls there were, tells each time one more of the calls, in their order.
func TestEachCallFails(t *testing.T) {
	inputs := []string{
		weighing(257), open(weighing(257)), strings.Repeat(fill("m", 64)+"\na\n", 9), spread(30, 20), runs(2) + rig.Word(65),
	}
	for _, count := range []int{2, 3, 4, 5, 6, 7} {
		inputs = append(inputs, runs(count))
	}
	for i, input := range inputs {
		n, in := i%2, rig.Ended(input)
		for at := range callsOf(n, in) {
			x := begin(t, n, fail(at, 100+at))
			x.run(in, 32)
			if x.now.err != api.ErrRaw || x.now.raw != 100+at || x.now.calls != at+1 || x.now.held != 0 {
				t.Fatalf("N %d of %q, call %d: %+v", n, input, at, x.now)
			}
			x.close()
		}
	}
}

// P18.2, P18.5: of ten runs the calls of two passes.
func TestEachCallOfTwoPassesFails(t *testing.T) {
	in := rig.Ended(runs(10))
	for n := range 2 {
		for at := range callsOf(n, in) {
			x := begin(t, n, fail(at, -at))
			if x.run(in, 32); x.now.err != api.ErrRaw || x.now.raw != -at {
				t.Fatalf("N %d, call %d: %+v", n, at, x.now)
			}
			x.close()
		}
	}
}

// P18.2: what was told ahead of the error stays, the piece behind which it comes, too.
func TestAPieceIsToldBesideTheError(t *testing.T) {
	long := fill("x", 64)
	lines := []string{"a", "b", "c", long, long, long, fill("y", 64)}
	input := all("a", "c", long, long, long, "b", lines[6])
	held := []int{65, 65, 128, 128, 128, 64, 0}
	for fails := 11; fails <= 19; fails++ {
		s, d := made(t, 0, fail(fails, 9))
		give(t, s, input)
		s.End(0)
		wantDisk(t, d, 11, 1, 2)
		told := min(fails-11, 6)
		for i := range told {
			rig.HoldSteps(t, s, rig.Behind(rig.Piece, lines[i]+"\n", api.More, held[i]))
		}
		rig.HoldSteps(t, s, rig.Fails(rig.Piece, lines[told]+"\n", api.ErrRaw))
		wantDisk(t, d, fails+1, count(2)[max(0, fails-18):]...)
		if s.Raw() != 9 {
			t.Errorf("Raw %d", s.Raw())
		}
		rig.HoldDone(t, s, rig.Call{Name: "More", Make: api.Machine.More})
		if e := s.Close(); e != api.OK {
			t.Errorf("Close: error %d", e)
		}
		wantDisk(t, d, fails+1+min(2, 20-fails))
	}
}

// P18.5: Ids of all sizes, of the first call that fails alone.
func TestRawIsTheIdByWhichItFailed(t *testing.T) {
	for _, id := range []int{1, 0, -1, math.MinInt, math.MaxInt} {
		x := begin(t, 0, fail(4, 77), fail(3, id), fail(3, 5))
		x.run(rig.Ended(runs(3)), 32)
		if x.s.Raw() != id {
			t.Errorf("Raw %d; want %d", x.s.Raw(), id)
		}
		if e := x.s.Close(); e != api.ErrRaw || x.s.Raw() != id || x.d.Raw() != 77 {
			t.Errorf("Close: error %d, Raw %d, the disk's %d; want %d, %d, 77", e, x.s.Raw(), x.d.Raw(), api.ErrRaw, id)
		}
	}
}

// P18.5: of a disk that has failed by others the Id is none of the machine's.
func TestRawIsNoneOfOthersErrors(t *testing.T) {
	used := func() (*Sorter, *files.Disk) {
		d := files.New(fail(0, 5))
		if _, e := d.Create(); e != api.ErrRaw {
			t.Fatalf("Create: error %d", e)
		}
		s, _ := New(of(0), d)
		return s, d
	}
	s, d := used()
	give(t, s, runs(2))
	for s.End(0); s.Need() == api.More; s.More() {
		if s.Raw() != 0 {
			t.Errorf("Raw %d", s.Raw())
		}
	}
	if s.Raw() != 0 || d.Raw() != 5 || d.Calls() != 19 {
		t.Errorf("Raw %d, the disk's %d, %d calls", s.Raw(), d.Raw(), d.Calls())
	}
	s, _ = used()
	give(t, s, runs(2)+rig.Word(64))
	rig.HoldSteps(t, s, rig.Fails("!", "", api.ErrLong))
	if s.Raw() != 0 {
		t.Errorf("behind ErrLong: Raw %d", s.Raw())
	}
	s, _ = used()
	give(t, s, strings.Repeat(fill("", 63)+"\n", 64*4+4))
	rig.HoldSteps(t, s, rig.Fails("\n", "", api.ErrMany))
	if s.Raw() != 0 {
		t.Errorf("behind ErrMany: Raw %d", s.Raw())
	}
}

// P18.2: the 65th run can't be spilt, by a line or by the end.
func TestMoreRunsThanThereMayBeFiles(t *testing.T) {
	for n := range 2 {
		for _, in := range []rig.Input{rig.Begun("\n"), rig.Ended("")} {
			x := begin(t, n, fail(64*5, 3))
			x.feed(strings.Repeat(spread(4, 63), 65), 32)
			if x.now.err != api.OK || x.now.need != 0 || x.now.calls != 64*5 {
				t.Fatalf("64 runs: error %d, Need %d, %d calls", x.now.err, x.now.need, x.now.calls)
			}
			x.run(in, 1)
			if x.now.err != api.ErrMany || x.now.calls != 64*5 || x.now.raw != 0 {
				t.Fatalf("65 runs: error %d, %d calls, Raw %d", x.now.err, x.now.calls, x.now.raw)
			}
			if e := x.s.Close(); e != api.ErrRaw || x.s.Raw() != 0 {
				t.Fatalf("Close: error %d, Raw %d", e, x.s.Raw())
			}
			wantDisk(t, x.d, 64*6, 1)
		}
	}
}

// P18.2: files that were removed count, too: passes over 43 runs make 64 in all, over more
// there is one too many.
func TestPassesOfMoreFilesThanThereMayBe(t *testing.T) {
	for _, c := range []struct {
		runs, live int
		err        api.Errno
	}{
		{42, 2, api.OK},
		{43, 2, api.OK},
		{44, 5, api.ErrMany},
		{63, 61, api.ErrMany},
		{64, 64, api.ErrMany},
	} {
		x := begin(t, 0)
		x.feed(strings.Repeat(spread(4, 63), c.runs), 32)
		x.end()
		if x.now.err != c.err || len(x.d.Live()) != c.live {
			t.Errorf("%d runs: error %d, files %v; want %d, %d files", c.runs, x.now.err, x.d.Live(), c.err, c.live)
		}
		x.more(4 * c.runs)
		if c.err == api.OK && (x.now.need != api.Ended || x.now.disk != "") {
			t.Errorf("%d runs: %+v", c.runs, x.now)
		}
		x.close()
	}
}

// ways are what becomes of a sort ahead of Close.
func ways() []func(x *sorting) {
	fed := func(text string) func(x *sorting) {
		return func(x *sorting) { x.feed(text, 32) }
	}
	told := func(text string, pieces int) func(x *sorting) {
		return func(x *sorting) {
			x.feed(text, 32)
			x.end()
			x.more(pieces)
		}
	}
	return []func(x *sorting){
		fed(""), fed("b\na"), fed(runs(2)), fed(runs(3) + "a"), fed("a\n" + rig.Word(65)), fed(runs(3) + rig.Word(65)),
		told("", 0), told("b\na", 0), told("b\na", 1), told("b\na", 2),
		told(runs(2), 0), told(runs(2), 1), told(runs(2), 5), told(runs(2), 6), told(runs(4), 0), told(runs(7), 9),
	}
}

// P18.5, P18.8: once, and then nothing more.
func TestCloseRemovesEachFileOnce(t *testing.T) {
	for _, way := range ways() {
		for _, script := range [][]api.FileFail{nil, {fail(0, 4)}, {fail(3, 4)}, {fail(13, 4)}} {
			x := begin(t, 0, script...)
			way(x)
			x.close()
			calls := x.d.Calls()
			for range 2 {
				if e := x.s.Close(); e != api.OK {
					t.Errorf("Close again: error %d", e)
				}
				x.isClosed(calls, x.now.raw)
			}
			for _, c := range append(rig.UndueCalls(), rig.FeedOf(0, []byte("x\n")), rig.Call{Name: "End", Make: end}) {
				rig.HoldDone(t, x.s, c)
			}
			x.isClosed(calls, x.now.raw)
		}
	}
}

// end is an End that is due while input 0 is read.
func end(m api.Machine) ([]api.Out, api.Errno) { return m.End(0) }

// P18.5: where Removes fail, the others are made all the same, and none of them again.
func TestCloseWithRemovesThatFail(t *testing.T) {
	for fails := range 16 {
		var script []api.FileFail
		var left []int
		for i := range 4 {
			if fails>>i&1 == 1 {
				script = append(script, fail(16+i, 50+i))
				left = append(left, i+1)
			}
		}
		want := api.OK
		if fails > 0 {
			want = api.ErrRaw
		}
		s, d := made(t, 0, script...)
		give(t, s, runs(5))
		wantDisk(t, d, 16, 1, 2, 3, 4)
		if e := s.Close(); e != want || s.Need() != api.Ended || s.Held() != 0 || s.Raw() != 0 {
			t.Errorf("%v: error %d, Need %d, Held %d, Raw %d; want %d", script, e, s.Need(), s.Held(), s.Raw(), want)
		}
		wantDisk(t, d, 20, left...)
		if e := s.Close(); e != api.OK {
			t.Errorf("%v: again: error %d", script, e)
		}
		wantDisk(t, d, 20, left...)
	}
}

// P18.5: all files that are there, those of others, too; rising.
func TestCloseRemovesAllThatIsThere(t *testing.T) {
	d := files.New(fail(13, 6))
	for range 3 {
		d.Create()
	}
	d.Remove(2)
	s, _ := New(of(0), d)
	give(t, s, runs(3))
	wantDisk(t, d, 12, 1, 3, 4, 5)
	if e := s.Close(); e != api.ErrRaw {
		t.Errorf("Close: error %d", e)
	}
	wantDisk(t, d, 16, 3)
}

// P1, P18.4, P18.5: of a nil one, and of one that New did not make.
func TestNoneIsAsOneThatHasEnded(t *testing.T) {
	for _, s := range []*Sorter{nil, {}} {
		calls := append(rig.UndueCalls(), rig.FeedOf(0, []byte("x\n")), rig.Call{Name: "End", Make: end})
		for range 2 {
			for _, c := range append(calls, rig.UndueCallsOf(7)...) {
				rig.HoldDone(t, s, c)
			}
			if e := s.Close(); e != api.OK || s.Raw() != 0 || s.Need() != api.Ended || s.Held() != 0 {
				t.Errorf("%v: Close: error %d, Raw %d, Need %d, Held %d", s, e, s.Raw(), s.Need(), s.Held())
			}
		}
	}
}
