package files

import (
	"fmt"
	"math"
	"slices"
	"strings"
	"testing"

	"penstock/api"
)

// The calls of a disk that may count.
const (
	create = iota
	write
	read
	remove
)

// call is one of them, with its arguments (those that it takes).
type call struct {
	kind, no, at, most int
	bytes              string
}

// String tells a call as a program would write it, up to some bytes of a Write.
func (c call) String() string {
	switch c.kind {
	case create:
		return "Create()"
	case write:
		return fmt.Sprintf("Write(%d, %.20q)", c.no, c.bytes)
	case read:
		return fmt.Sprintf("Read(%d, %d, %d)", c.no, c.at, c.most)
	}
	return fmt.Sprintf("Remove(%d)", c.no)
}

// answer is what a call comes to: a file's number, or bytes, or neither.
type answer struct {
	no    int
	bytes string
	err   api.Errno
}

func (a answer) String() string {
	return fmt.Sprintf("(%d, %d bytes %.40q, error %d)", a.no, len(a.bytes), a.bytes, a.err)
}

// told is what a disk tells of itself.
type told struct {
	raw, calls int
	live       []int
}

// spoil writes over all memory that a slice reaches, also behind its end.
func spoil(b []byte) {
	b = b[:cap(b)]
	for i := range b {
		b[i] ^= 0x55
	}
}

// ask makes a call. What it hands in, and what it is answered, is written over
// behind it, so that a disk that shares it shows that by its next answers.
func ask(t *testing.T, d *Disk, c call) answer {
	t.Helper()
	switch c.kind {
	case create:
		no, e := d.Create()
		return answer{no: no, err: e}
	case write:
		lent := append(make([]byte, 0, len(c.bytes)+8), c.bytes...)
		e := d.Write(c.no, lent)
		if string(lent) != c.bytes {
			t.Fatalf("Write(%d) changed what it was handed", c.no)
		}
		spoil(lent)
		return answer{err: e}
	case read:
		b, e := d.Read(c.no, c.at, c.most)
		text := string(b)
		spoil(b)
		return answer{bytes: text, err: e}
	}
	return answer{err: d.Remove(c.no)}
}

// tellsOf lists what a disk tells, and writes over its list behind that.
func tellsOf(d *Disk) told {
	live := d.Live()
	seen := told{raw: d.Raw(), calls: d.Calls(), live: slices.Clone(live)}
	live = live[:cap(live)]
	for i := range live {
		live[i] = -77
	}
	return seen
}

// wantTold holds what a disk tells against what it should.
func wantTold(t *testing.T, what string, d *Disk, want told) {
	t.Helper()
	got := tellsOf(d)
	if got.raw != want.raw || got.calls != want.calls || !slices.Equal(got.live, want.live) {
		t.Fatalf("%s: Raw %d, Calls %d, Live %v; want %d, %d, %v", what, got.raw, got.calls, got.live, want.raw, want.calls, want.live)
	}
}

// step is a call, what it comes to, and what the disk tells behind it.
type step struct {
	call call
	want answer
	told told
}

// behind says what a disk tells behind a step: Raw, Calls, Live.
func (s step) behind(raw, calls int, live ...int) step {
	s.told = told{raw: raw, calls: calls, live: live}
	return s
}

func creates(no int) step {
	return step{call: call{kind: create}, want: answer{no: no}}
}

func writes(no int, text string) step {
	return step{call: call{kind: write, no: no, bytes: text}}
}

func reads(no, at, most int, text string) step {
	return step{call: call{kind: read, no: no, at: at, most: most}, want: answer{bytes: text}}
}

func removes(no int) step {
	return step{call: call{kind: remove, no: no}}
}

// ends is the step's call, by which nothing comes but that error.
func (s step) ends(e api.Errno) step {
	s.want = answer{err: e}
	return s
}

// holdSteps makes calls one behind the other, and holds what each comes to, and
// what the disk tells behind it, against what is written there.
func holdSteps(t *testing.T, d *Disk, steps ...step) {
	t.Helper()
	for i, s := range steps {
		what := fmt.Sprintf("step %d, %s", i, s.call)
		if got := ask(t, d, s.call); got != s.want {
			t.Fatalf("%s: %v; want %v", what, got, s.want)
		}
		wantTold(t, what, d, s.told)
	}
}

// holdNothing makes a call that is refused: by that error, and nothing changes.
func holdNothing(t *testing.T, d *Disk, c call, e api.Errno) {
	t.Helper()
	before := tellsOf(d)
	if got := ask(t, d, c); got != (answer{err: e}) {
		t.Fatalf("%s: %v; want nothing but %v", c, got, e)
	}
	wantTold(t, "behind "+c.String()+", which is refused", d, before)
}

// diskOf makes a disk with files of these bytes, by no script.
func diskOf(t *testing.T, texts ...string) *Disk {
	t.Helper()
	d := New()
	for i, text := range texts {
		if got := ask(t, d, call{kind: create}); got != (answer{no: i + 1}) {
			t.Fatalf("Create: %v; want %d", got, i+1)
		}
		for at := 0; at < len(text); at += api.MaxAnswer {
			piece := text[at:min(at+api.MaxAnswer, len(text))]
			if got := ask(t, d, call{kind: write, no: i + 1, bytes: piece}); got != (answer{}) {
				t.Fatalf("Write(%d): %v", i+1, got)
			}
		}
	}
	return d
}

// wantFile holds all of a file's bytes against those that it should have.
func wantFile(t *testing.T, d *Disk, no int, text string) {
	t.Helper()
	if got := ask(t, d, call{kind: read, no: no, most: math.MaxInt}); got != (answer{bytes: text}) {
		t.Fatalf("file %d: %d bytes %.40q, %v; want %d bytes %.40q", no, len(got.bytes), got.bytes, got.err, len(text), text)
	}
}

// fails is one line of a script.
func fails(at, id int) api.FileFail { return api.FileFail{Call: at, Id: id} }

// long makes so many bytes, of all values, which no two places near one another
// have alike.
func long(n int) string {
	b := make([]byte, n)
	for i := range b {
		b[i] = byte(i*7 + i/256)
	}
	return string(b)
}

// strangeNumbers are numbers of no file on a disk of which no more than those
// were created.
func strangeNumbers(created int) []int {
	return []int{math.MinInt, math.MinInt + 1, -65, -2, -1, 0, created + 1, created + 2, 64 + created, 257, math.MaxInt - 1, math.MaxInt}
}

// P17.1 to P17.5: the chapter's examples.
func TestExamples(t *testing.T) {
	holdSteps(t, New(fails(2, 9)),
		creates(1).behind(0, 1, 1),
		writes(1, "ab").behind(0, 2, 1),
		writes(1, "c").ends(api.ErrRaw).behind(9, 3, 1),
		reads(1, 0, 9, "ab").behind(9, 4, 1),
		writes(1, "c").behind(9, 5, 1),
		reads(1, 1, 1, "b").behind(9, 6, 1),
		reads(1, 3, 1, "").behind(9, 7, 1),
		reads(1, 4, 1, "").ends(api.ErrArg).behind(9, 7, 1),
		removes(1).behind(9, 8),
		removes(1).ends(api.ErrArg).behind(9, 8),
		creates(2).behind(9, 9, 2))
}

// P17.1, P17.5: a new file has no bytes, and the next number.
func TestCreateMakesFilesWithoutBytes(t *testing.T) {
	holdSteps(t, New(),
		creates(1).behind(0, 1, 1),
		reads(1, 0, 1, "").behind(0, 2, 1),
		creates(2).behind(0, 3, 1, 2),
		creates(3).behind(0, 4, 1, 2, 3),
		reads(3, 0, math.MaxInt, "").behind(0, 5, 1, 2, 3),
		reads(2, 0, 1, "").behind(0, 6, 1, 2, 3),
		reads(2, 1, 1, "").ends(api.ErrArg).behind(0, 6, 1, 2, 3))
}

// P17.1: 64 files may be created, and no more.
func TestCreateRefusesMoreThanMaxFiles(t *testing.T) {
	d := New()
	var live []int
	for no := 1; no <= 64; no++ {
		live = append(live, no)
		holdSteps(t, d, creates(no).behind(0, no, live...))
	}
	for range 3 {
		holdNothing(t, d, call{kind: create}, api.ErrMany)
	}
	holdSteps(t, d, writes(64, "z").behind(0, 65, live...), reads(64, 0, 1, "z").behind(0, 66, live...))
}

// P17.1: files that were removed were created all the same.
func TestCreateCountsRemovedFiles(t *testing.T) {
	for _, removed := range [][]int{{1}, {64}, {32, 31, 33}, {64, 1, 63, 2}} {
		d := New()
		for no := 1; no <= 64; no++ {
			if got := ask(t, d, call{kind: create}); got != (answer{no: no}) {
				t.Fatalf("Create %d: %v", no, got)
			}
		}
		for _, no := range removed {
			if e := d.Remove(no); e != api.OK {
				t.Fatalf("Remove(%d): %v", no, e)
			}
		}
		holdNothing(t, d, call{kind: create}, api.ErrMany)
	}
}

// P17.1: that no file is there at any time makes no room for a 65th.
func TestCreateRefusesWhenAllAreRemoved(t *testing.T) {
	d := New()
	for no := 1; no <= 64; no++ {
		holdSteps(t, d, creates(no).behind(0, 2*no-1, no), removes(no).behind(0, 2*no))
	}
	holdNothing(t, d, call{kind: create}, api.ErrMany)
}

// P17.1: a number is never given twice.
func TestCreateGivesNoNumberTwice(t *testing.T) {
	holdSteps(t, New(),
		creates(1).behind(0, 1, 1),
		creates(2).behind(0, 2, 1, 2),
		writes(2, "old").behind(0, 3, 1, 2),
		removes(2).behind(0, 4, 1),
		creates(3).behind(0, 5, 1, 3),
		reads(3, 0, 9, "").behind(0, 6, 1, 3),
		removes(1).behind(0, 7, 3),
		creates(4).behind(0, 8, 3, 4),
		removes(4).behind(0, 9, 3),
		removes(3).behind(0, 10),
		creates(5).behind(0, 11, 5))
}

// P17.1: a Create that fails creates none, and the next one has its number.
func TestCreateThatFails(t *testing.T) {
	holdSteps(t, New(fails(0, 4), fails(2, 5), fails(3, 6)),
		creates(0).ends(api.ErrRaw).behind(4, 1),
		writes(1, "a").ends(api.ErrArg).behind(4, 1),
		creates(1).behind(4, 2, 1),
		creates(0).ends(api.ErrRaw).behind(5, 3, 1),
		creates(0).ends(api.ErrRaw).behind(6, 4, 1),
		reads(2, 0, 1, "").ends(api.ErrArg).behind(6, 4, 1),
		creates(2).behind(6, 5, 1, 2))
}

// P17.1: nor is one that fails counted among the 64; and of the 65th nothing is
// asked of the script, since ErrMany is another cause.
func TestCreateThatFailsIsNoneOfTheMaxFiles(t *testing.T) {
	d := New(fails(10, 8), fails(65, 9))
	for i := range 65 {
		got := ask(t, d, call{kind: create})
		switch {
		case i < 10 && got != answer{no: i + 1}, i > 10 && got != answer{no: i}:
			t.Fatalf("Create %d: %v", i, got)
		case i == 10 && got != answer{err: api.ErrRaw}:
			t.Fatalf("Create %d: %v; want ErrRaw", i, got)
		}
	}
	holdNothing(t, d, call{kind: create}, api.ErrMany)
	if got := ask(t, d, call{kind: remove, no: 64}); got != (answer{err: api.ErrRaw}) || d.Raw() != 9 {
		t.Fatalf("the call behind it: %v, Raw %d; want ErrRaw, 9", got, d.Raw())
	}
}

// P17.2: pieces stand one behind the other.
func TestWritePutsBehindTheOthers(t *testing.T) {
	holdSteps(t, New(),
		creates(1).behind(0, 1, 1),
		writes(1, "ab").behind(0, 2, 1),
		reads(1, 0, 9, "ab").behind(0, 3, 1),
		writes(1, "c").behind(0, 4, 1),
		writes(1, "c").behind(0, 5, 1),
		writes(1, "\n\x00\xff").behind(0, 6, 1),
		reads(1, 0, 99, "abcc\n\x00\xff").behind(0, 7, 1))
}

// P17.2: from 1 byte to MaxAnswer of them.
func TestWriteTakesUpToMaxAnswer(t *testing.T) {
	for _, size := range []int{1, 2, 65, 1023, 1024} {
		d, text := diskOf(t, "", "x"), long(size)
		holdSteps(t, d,
			writes(2, text).behind(0, 4, 1, 2),
			reads(2, 0, math.MaxInt, "x"+text).behind(0, 5, 1, 2),
			reads(1, 0, math.MaxInt, "").behind(0, 6, 1, 2))
	}
	for _, size := range []int{0, 1025, 1026, 2048, 1 << 16} {
		d := diskOf(t, "x")
		holdNothing(t, d, call{kind: write, no: 1, bytes: long(size)}, api.ErrArg)
		wantFile(t, d, 1, "x")
	}
	d := diskOf(t, "x")
	for _, b := range [][]byte{nil, {}} {
		if e := d.Write(1, b); e != api.ErrArg || d.Calls() != 2 {
			t.Errorf("Write of no bytes: %v, Calls %d; want ErrArg, 2", e, d.Calls())
		}
	}
}

// P17.2: a file may have more bytes than one Write.
func TestWriteMakesLongFiles(t *testing.T) {
	d, text := New(), long(1024)
	ask(t, d, call{kind: create})
	for i := range 40 {
		holdSteps(t, d, writes(1, text).behind(0, i+2, 1))
	}
	wantFile(t, d, 1, strings.Repeat(text, 40))
}

// P17.2: each value of a byte comes back as it was.
func TestWriteTakesEveryByte(t *testing.T) {
	d, all := diskOf(t, ""), ""
	for n := range 256 {
		b := string([]byte{byte(n)})
		all += b
		if got := ask(t, d, call{kind: write, no: 1, bytes: b}); got != (answer{}) {
			t.Fatalf("Write of byte %d: %v", n, got)
		}
	}
	wantFile(t, d, 1, all)
}

// P17.3: every beginning, every length.
func TestReadAnswersEachPart(t *testing.T) {
	d, text := New(), "abcd\nef"
	for _, s := range []step{creates(1), writes(1, "abc"), writes(1, "d\nef")} {
		if got := ask(t, d, s.call); got != s.want {
			t.Fatalf("%s: %v", s.call, got)
		}
	}
	for at := 0; at <= len(text); at++ {
		for _, most := range []int{1, 2, 3, 4, 5, 6, 7, 8, 64, 1 << 20, math.MaxInt - 1, math.MaxInt} {
			want := text[at:]
			if most < len(want) {
				want = want[:most]
			}
			if got := ask(t, d, call{kind: read, no: 1, at: at, most: most}); got != (answer{bytes: want}) {
				t.Errorf("Read(1, %d, %d): %q, %v; want %q", at, most, got.bytes, got.err, want)
			}
		}
	}
	wantFile(t, d, 1, text)
}

// P17.3: a Read may answer more than one Write took.
func TestReadAnswersMoreThanMaxAnswer(t *testing.T) {
	text := long(5000)
	d := diskOf(t, text)
	for _, c := range []struct{ at, most int }{{0, 5000}, {0, 5001}, {0, 4999}, {1, 4999}, {1023, 3000}, {4999, 1}, {4999, 2}, {0, math.MaxInt}, {5000, math.MaxInt}} {
		want := text[c.at:]
		want = want[:min(len(want), c.most)]
		if got := ask(t, d, call{kind: read, no: 1, at: c.at, most: c.most}); got != (answer{bytes: want}) {
			t.Errorf("Read(1, %d, %d): %d bytes, %v; want %d", c.at, c.most, len(got.bytes), got.err, len(want))
		}
	}
}

// P17.3: at from 0 to the file's size, most from 1 on.
func TestReadRefusesWhatIsNoPlace(t *testing.T) {
	for _, text := range []string{"", "a", "abc"} {
		d := diskOf(t, text)
		for _, at := range []int{math.MinInt, -2, -1, len(text) + 1, len(text) + 2, 1 << 20, math.MaxInt} {
			for _, most := range []int{1, 2, math.MaxInt} {
				holdNothing(t, d, call{kind: read, no: 1, at: at, most: most}, api.ErrArg)
			}
		}
		for at := range len(text) + 1 {
			for _, most := range []int{math.MinInt, -2, -1, 0} {
				holdNothing(t, d, call{kind: read, no: 1, at: at, most: most}, api.ErrArg)
			}
		}
		wantFile(t, d, 1, text)
	}
}

// P17.4: a file that was removed is there no more, for good.
func TestRemoveIsForGood(t *testing.T) {
	d := diskOf(t, "a", "bc", "d")
	if got := ask(t, d, call{kind: remove, no: 2}); got != (answer{}) {
		t.Fatalf("Remove(2): %v", got)
	}
	for range 2 {
		for _, c := range []call{{kind: remove, no: 2}, {kind: write, no: 2, bytes: "x"}, {kind: read, no: 2, most: 1}, {kind: read, no: 2, at: 2, most: 1}} {
			holdNothing(t, d, c, api.ErrArg)
		}
		if got := ask(t, d, call{kind: create}); got.err != api.OK || got.no < 4 {
			t.Fatalf("Create behind it: %v", got)
		}
	}
	wantFile(t, d, 1, "a")
	wantFile(t, d, 3, "d")
}

// P17.2 to P17.4: numbers of no file.
func TestNumbersOfNoFile(t *testing.T) {
	for _, texts := range [][]string{nil, {""}, {"a"}, {"a", "bc", ""}} {
		d := diskOf(t, texts...)
		for _, no := range strangeNumbers(len(texts)) {
			holdNothing(t, d, call{kind: write, no: no, bytes: "x"}, api.ErrArg)
			holdNothing(t, d, call{kind: write, no: no}, api.ErrArg)
			holdNothing(t, d, call{kind: read, no: no, most: 1}, api.ErrArg)
			holdNothing(t, d, call{kind: read, no: no, at: -1}, api.ErrArg)
			holdNothing(t, d, call{kind: remove, no: no}, api.ErrArg)
		}
		for i, text := range texts {
			wantFile(t, d, i+1, text)
		}
	}
}

// P17.5: Live rises, whichever of many files are there.
func TestLiveRises(t *testing.T) {
	d := New()
	var live []int
	for no := 1; no <= 64; no++ {
		live = append(live, no)
		ask(t, d, call{kind: create})
	}
	for i := 0; len(live) > 0; i++ {
		at := (i * 29) % len(live)
		if e := d.Remove(live[at]); e != api.OK {
			t.Fatalf("Remove(%d): %v", live[at], e)
		}
		live = slices.Delete(live, at, at+1)
		wantTold(t, "behind some Removes", d, told{calls: 65 + i, live: live})
	}
}

// P17.5: ahead of every call.
func TestNewTellsNothing(t *testing.T) {
	for _, d := range []*Disk{New(), New(nil...), New([]api.FileFail{}...), New(fails(0, 3)), New(fails(-1, 3))} {
		if d == nil {
			t.Fatal("New: nil")
		}
		wantTold(t, "New", d, told{})
	}
}

// P17.5, P17.7: each of the four kinds, as it fails, counts and changes nothing
// else; the same call again does what it says.
func TestEachKindFailsAndThenDoesNot(t *testing.T) {
	ahead := []step{creates(1), writes(1, "ab"), creates(2), writes(2, "cd")}
	for _, again := range []struct {
		step step
		live []int
		is   [2]string
	}{
		{creates(3), []int{1, 2, 3}, [2]string{"ab", "cd"}},
		{writes(1, "xyz"), []int{1, 2}, [2]string{"abxyz", "cd"}},
		{reads(2, 1, 9, "d"), []int{1, 2}, [2]string{"ab", "cd"}},
		{reads(2, 2, 1, ""), []int{1, 2}, [2]string{"ab", "cd"}},
		{removes(1), []int{2}, [2]string{"", "cd"}},
	} {
		d := New(fails(4, 7), fails(5, 8))
		for _, s := range ahead {
			if got := ask(t, d, s.call); got != s.want {
				t.Fatalf("%s: %v", s.call, got)
			}
		}
		holdSteps(t, d,
			again.step.ends(api.ErrRaw).behind(7, 5, 1, 2),
			again.step.ends(api.ErrRaw).behind(8, 6, 1, 2),
			again.step.behind(8, 7, again.live...))
		for i, text := range again.is {
			if slices.Contains(again.live, i+1) {
				wantFile(t, d, i+1, text)
			}
		}
	}
}

// P17.5, P17.7: a file is there, and has its bytes, behind each call that fails.
func TestCallsThatFailChangeNoFile(t *testing.T) {
	d := New(fails(4, 1), fails(5, 2), fails(6, 3), fails(7, 4))
	holdSteps(t, d,
		creates(1).behind(0, 1, 1),
		writes(1, "ab").behind(0, 2, 1),
		creates(2).behind(0, 3, 1, 2),
		writes(2, "cd").behind(0, 4, 1, 2),
		writes(1, "x").ends(api.ErrRaw).behind(1, 5, 1, 2),
		removes(2).ends(api.ErrRaw).behind(2, 6, 1, 2),
		reads(2, 0, 2, "").ends(api.ErrRaw).behind(3, 7, 1, 2),
		creates(0).ends(api.ErrRaw).behind(4, 8, 1, 2),
		reads(1, 0, 9, "ab").behind(4, 9, 1, 2),
		reads(2, 0, 9, "cd").behind(4, 10, 1, 2),
		creates(3).behind(4, 11, 1, 2, 3))
}

// P17.5: of two FileFails of one Call the first, wherever they stand.
func TestScriptsFirstOfOneCall(t *testing.T) {
	for _, c := range []struct {
		script   []api.FileFail
		ids      [3]int
		does     [3]bool
		lastDone int
	}{
		{[]api.FileFail{fails(1, 5), fails(1, 6)}, [3]int{0, 5, 5}, [3]bool{true, false, true}, 5},
		{[]api.FileFail{fails(1, 6), fails(1, 5)}, [3]int{0, 6, 6}, [3]bool{true, false, true}, 6},
		{[]api.FileFail{fails(2, 9), fails(1, 6), fails(0, 3), fails(1, 5), fails(2, 1)}, [3]int{3, 6, 9}, [3]bool{}, 9},
		{[]api.FileFail{fails(1, 0), fails(1, 5)}, [3]int{}, [3]bool{true, false, true}, 0},
		{[]api.FileFail{fails(1, -4), fails(1, 5), fails(1, -4)}, [3]int{0, -4, -4}, [3]bool{true, false, true}, -4},
	} {
		d := New(c.script...)
		for i, does := range c.does {
			_, e := d.Create()
			if (e == api.OK) != does || !does && e != api.ErrRaw || d.Raw() != c.ids[i] {
				t.Errorf("%v: Create %d: %v, Raw %d; want %d", c.script, i, e, d.Raw(), c.ids[i])
			}
		}
		if _, e := d.Create(); e != api.OK || d.Raw() != c.lastDone {
			t.Errorf("%v: behind them: %v, Raw %d; want OK, %d", c.script, e, d.Raw(), c.lastDone)
		}
	}
}

// P17.5: an Id of 0 or below is told as any other one, also behind others.
func TestScriptsIdsOfAllSizes(t *testing.T) {
	ids := []int{9, 0, -1, math.MinInt, math.MaxInt, 1}
	var script []api.FileFail
	for i, id := range ids {
		script = append(script, fails(i, id))
	}
	d := New(script...)
	for i, id := range ids {
		holdSteps(t, d, creates(0).ends(api.ErrRaw).behind(id, i+1))
	}
	holdSteps(t, d, creates(1).behind(1, len(ids)+1, 1))
}

// P17.5: Calls that are negative, or that are never reached, play no part.
func TestScriptsCallsThatNeverCome(t *testing.T) {
	d := New(fails(math.MinInt, 1), fails(-1, 2), fails(4, 3), fails(math.MaxInt, 4))
	holdSteps(t, d,
		creates(1).behind(0, 1, 1),
		writes(1, "a").behind(0, 2, 1),
		reads(1, 0, 1, "a").behind(0, 3, 1),
		removes(1).behind(0, 4))
}

// P17.5: a script of many, each of which is its own call's.
func TestScriptsOfMany(t *testing.T) {
	var script []api.FileFail
	for i := 999; i >= 0; i-- {
		if i%3 != 0 {
			script = append(script, fails(i, 1000+i))
		}
	}
	d, raw, created := New(script...), 0, 0
	for i := range 300 {
		s := reads(1, 0, 1, "")
		if i%9 == 0 {
			s = creates(created + 1)
		}
		if i%3 != 0 {
			raw, s = 1000+i, s.ends(api.ErrRaw)
		}
		if s.want.no != 0 {
			created++
		}
		if got := ask(t, d, s.call); got != s.want || d.Raw() != raw || d.Calls() != i+1 {
			t.Fatalf("call %d, %s: %v, Raw %d, Calls %d; want %v, %d", i, s.call, got, d.Raw(), d.Calls(), s.want, raw)
		}
	}
}

// P17.5: calls that are refused do not count, so that the script's numbers are
// those of calls that count, however many others stand between them.
func TestRefusedCallsDoNotCount(t *testing.T) {
	refused := []call{
		{kind: write, no: 1}, {kind: write, no: 9, bytes: "a"}, {kind: write, no: 1, bytes: long(1025)},
		{kind: read, no: 9, most: 1}, {kind: read, no: 1, at: -1, most: 1}, {kind: read, no: 1, at: 9, most: 1}, {kind: read, no: 1},
		{kind: remove, no: 9}, {kind: remove},
	}
	d := New(fails(1, 5), fails(3, 6))
	for _, s := range []step{
		creates(1).behind(0, 1, 1),
		writes(1, "ab").ends(api.ErrRaw).behind(5, 2, 1),
		writes(1, "ab").behind(5, 3, 1),
		reads(1, 0, 1, "a").ends(api.ErrRaw).behind(6, 4, 1),
		reads(1, 0, 1, "a").behind(6, 5, 1),
	} {
		holdSteps(t, d, s)
		for _, c := range refused {
			holdNothing(t, d, c, api.ErrArg)
		}
	}
}

// P17.5: a call that is refused by another cause is not the script's, though
// its number would be.
func TestRefusalsStandAheadOfTheScript(t *testing.T) {
	d := New(fails(2, 5))
	holdSteps(t, d,
		creates(1).behind(0, 1, 1),
		creates(2).behind(0, 2, 1, 2),
		writes(1, "").ends(api.ErrArg).behind(0, 2, 1, 2),
		reads(1, 1, 1, "").ends(api.ErrArg).behind(0, 2, 1, 2),
		removes(3).ends(api.ErrArg).behind(0, 2, 1, 2),
		removes(1).ends(api.ErrRaw).behind(5, 3, 1, 2))
}

// P17.6: a nil disk.
func TestNilDisk(t *testing.T) {
	var d *Disk
	for _, no := range append(strangeNumbers(0), 1) {
		holdNothing(t, d, call{kind: write, no: no, bytes: "a"}, api.ErrArg)
		holdNothing(t, d, call{kind: read, no: no, most: 1}, api.ErrArg)
		holdNothing(t, d, call{kind: remove, no: no}, api.ErrArg)
	}
	holdNothing(t, d, call{kind: create}, api.ErrArg)
	wantTold(t, "a nil disk", d, told{})
}

// P1: a disk that New did not make panics as little as one that it did.
func TestZeroDisk(t *testing.T) {
	holdSteps(t, &Disk{},
		writes(1, "a").ends(api.ErrArg),
		reads(1, 0, 1, "").ends(api.ErrArg),
		removes(1).ends(api.ErrArg),
		creates(1).behind(0, 1, 1),
		writes(1, "a").behind(0, 2, 1),
		reads(1, 0, 1, "a").behind(0, 3, 1),
		removes(1).behind(0, 4))
}

// P17.6: the script is neither kept nor changed.
func TestScriptIsNotKept(t *testing.T) {
	script := []api.FileFail{fails(3, 7), fails(1, 5), fails(1, 6), fails(-2, 1)}
	was := slices.Clone(script)
	d := New(script...)
	if !slices.Equal(script, was) {
		t.Fatalf("New changed its script: %v", script)
	}
	for i := range script {
		script[i] = fails(i, 99)
	}
	holdSteps(t, d,
		creates(1).behind(0, 1, 1),
		creates(0).ends(api.ErrRaw).behind(5, 2, 1),
		creates(2).behind(5, 3, 1, 2),
		creates(0).ends(api.ErrRaw).behind(7, 4, 1, 2))
	for i := range script {
		if script[i] != fails(i, 99) {
			t.Errorf("the calls changed the script: %v", script)
		}
	}
}

// P17.6: two disks of one script go on each by itself.
func TestDisksShareNothing(t *testing.T) {
	script := []api.FileFail{fails(1, 5)}
	a, b := New(script...), New(script...)
	holdSteps(t, a, creates(1).behind(0, 1, 1), writes(1, "x").ends(api.ErrRaw).behind(5, 2, 1), writes(1, "x").behind(5, 3, 1))
	wantTold(t, "the other disk", b, told{})
	holdSteps(t, b, creates(1).behind(0, 1, 1), reads(1, 0, 1, "").ends(api.ErrRaw).behind(5, 2, 1), reads(1, 0, 1, "").behind(5, 3, 1))
	wantFile(t, a, 1, "x")
}

// P17.6: bytes that were written are the disk's own, of each piece.
func TestWriteKeepsNothingThatItIsHanded(t *testing.T) {
	d, lent := diskOf(t, ""), []byte("abc")
	for _, piece := range []string{"abc", "def", "ghi"} {
		copy(lent, piece)
		if e := d.Write(1, lent); e != api.OK || string(lent) != piece {
			t.Fatalf("Write: %v, its bytes are %q then", e, lent)
		}
	}
	spoil(lent)
	wantFile(t, d, 1, "abcdefghi")
}

// P17.6: what is read is new memory, which the disk neither sees nor changes.
func TestReadAnswersNewMemory(t *testing.T) {
	d := diskOf(t, "abcdef")
	whole, _ := d.Read(1, 0, 6)
	part, _ := d.Read(1, 2, 2)
	again, _ := d.Read(1, 0, 6)
	none, _ := d.Read(1, 6, 1)
	if e := d.Write(1, []byte("ghi")); e != api.OK {
		t.Fatalf("Write: %v", e)
	}
	part = append(part, "XYZ"...)
	none = append(none, "XYZ"...)
	spoil(whole)
	if string(part) != "cdXYZ" || string(none) != "XYZ" || string(again) != "abcdef" {
		t.Errorf("answers share their bytes: %q, %q, %q", part, none, again)
	}
	spoil(part)
	spoil(none)
	wantFile(t, d, 1, "abcdefghi")
	if e := d.Remove(1); e != api.OK || string(again) != "abcdef" {
		t.Errorf("Remove: %v; an answer is %q then", e, again)
	}
}

// P17.6: so are the numbers that are told.
func TestLiveAnswersNewMemory(t *testing.T) {
	d := diskOf(t, "a", "b", "c")
	first, second := d.Live(), d.Live()
	for i := range first {
		first[i] = -7
	}
	first = append(first, 8, 9)
	if !slices.Equal(second, []int{1, 2, 3}) || len(first) != 5 {
		t.Errorf("two answers share their numbers: %v", second)
	}
	if e := d.Remove(2); e != api.OK || !slices.Equal(second, []int{1, 2, 3}) || !slices.Equal(d.Live(), []int{1, 3}) {
		t.Errorf("behind a Remove: %v, %v, %v", e, second, d.Live())
	}
}

// P17.7: files that stand side by side do not get into one another.
func TestFilesSideBySide(t *testing.T) {
	d := New()
	texts := make([]string, 64)
	for i := range texts {
		if got := ask(t, d, call{kind: create}); got != (answer{no: i + 1}) {
			t.Fatalf("Create %d: %v", i+1, got)
		}
	}
	for round := range 20 {
		for i := range texts {
			piece := long(1 + (i*round)%50)
			texts[i] += piece
			if e := d.Write(i+1, []byte(piece)); e != api.OK {
				t.Fatalf("Write(%d): %v", i+1, e)
			}
		}
	}
	for i := 0; i < len(texts); i += 2 {
		if e := d.Remove(i + 1); e != api.OK {
			t.Fatalf("Remove(%d): %v", i+1, e)
		}
		for j, text := range texts {
			if j > i || j%2 == 1 {
				wantFile(t, d, j+1, text)
			}
		}
	}
}
