package stage

import (
	"slices"
	"strings"
	"testing"

	"penstock/api"
	"penstock/rig"
)

// step is a call that is due, and what is seen of the stage behind it.
type step struct {
	name string
	call func(x *Stage) bool
	move api.Move
	held int
}

// reads is a move.
func reads(port int) api.Move { return api.Move{Kind: api.MoveRead, Port: port} }

// writes is a move.
func writes(port int, text string) api.Move {
	return api.Move{Kind: api.MoveWrite, Port: port, Bytes: []byte(text)}
}

// ends is a move.
func ends() api.Move { return api.Move{Kind: api.MoveEnd} }

// fails is a move.
func fails(code api.Errno, stage, id int) api.Move {
	return api.Move{Kind: api.MoveFail, Fault: api.Fault{Code: code, Stage: stage, Id: id}}
}

// took is the step of a chunk.
func took(text string, move api.Move, held int) step {
	return step{"Took " + text, func(x *Stage) bool { return x.Took([]byte(text)) }, move, held}
}

// wrote is the step of what was to be written.
func wrote(move api.Move, held int) step { return step{"Wrote", (*Stage).Wrote, move, held} }

// over is the step of an input's end.
func over(move api.Move, held int) step { return step{"Over", (*Stage).Over, move, held} }

// broke is the step of an input's fault.
func broke(f api.Fault, move api.Move, held int) step {
	return step{"Broke", func(x *Stage) bool { return x.Broke(f) }, move, held}
}

// closed is the step of a Close, by which there is nothing to be answered.
func closed(move api.Move, held int) step {
	return step{"Close", func(x *Stage) bool { x.Close(); return true }, move, held}
}

// sees holds what is seen of a stage against what is to be.
func sees(t *testing.T, name string, x *Stage, move api.Move, held int) {
	t.Helper()
	m := x.Move()
	same := m.Kind == move.Kind && m.Port == move.Port && string(m.Bytes) == string(move.Bytes) && m.Fault == move.Fault
	if !same || x.Held() != held {
		t.Fatalf("behind %s: Move %+v, Held %d; want %+v, Held %d", name, m, x.Held(), move, held)
	}
}

// holdSteps makes the calls of a stage, and holds what is seen behind each against what
// is written there; before the first one it holds nothing.
func holdSteps(t *testing.T, x *Stage, first api.Move, steps ...step) {
	t.Helper()
	sees(t, "New", x, first, 0)
	for _, s := range steps {
		if !s.call(x) {
			t.Fatalf("%s: false", s.name)
		}
		sees(t, s.name, x, s.move, s.held)
	}
}

// panicsAt is a script by which stage 2 panics at a byte of an input.
func panicsAt(in, at, id int) api.Script {
	return api.Script{Panics: []api.Trouble{{Stage: 2, In: in, At: at, Id: id}}}
}

// none is a script that says nothing.
var none = api.Script{}

// The chapter's examples.
func TestTheChaptersExamples(t *testing.T) {
	p := of(api.KindHead, 1)
	holdSteps(t, made(t, 2, p, none), reads(0),
		took("ab", reads(0), 2),
		took("c\nd", writes(0, "abc\n"), 4),
		wrote(ends(), 0))
	holdSteps(t, made(t, 2, p, panicsAt(0, 1, 7)), reads(0),
		took("ab", fails(api.ErrPanic, 2, 7), 1))
	text := rig.Word(40)
	s := api.Script{Sources: []api.Source{{Bytes: []byte(text)}}}
	holdSteps(t, made(t, 2, of(api.KindSource, 0), s), writes(0, text[:32]),
		wrote(writes(0, text[32:]), 0),
		wrote(ends(), 0))
}

// P19.2, P19.3, P19.4: a stage of each kind, step by step.
func TestEachKindStepByStep(t *testing.T) {
	holdSteps(t, made(t, 2, of(api.KindSink, 3), none), reads(0),
		took("a\n", reads(0), 0), took(rig.Word(32), reads(0), 0), over(ends(), 0))
	holdSteps(t, made(t, 2, of(api.KindHead, 0), none), ends())
	holdSteps(t, made(t, 2, of(api.KindTail, 2), none), reads(0),
		took("a\nbb\nccc\nd", reads(0), 6), over(writes(0, "ccc\n"), 5), wrote(writes(0, "d\n"), 2), wrote(ends(), 0))
	holdSteps(t, made(t, 2, by(api.KindMatch, 0, "b"), none), reads(0),
		took("abc\nxyz\nb\nq", writes(0, "abc\n"), 7), wrote(writes(0, "b\n"), 3), wrote(reads(0), 1), over(ends(), 0))
	holdSteps(t, made(t, 2, api.Params{Kind: api.KindTurn, A: []byte("abc"), B: []byte("xy")}, none), reads(0),
		took("aabbccd", writes(0, "xxyyd"), 5), wrote(reads(0), 0), took("ccc", reads(0), 0), over(ends(), 0))
	holdSteps(t, made(t, 2, by(api.KindFields, 5, ":"), none), reads(0),
		took("a:b:c:d\nplain", writes(0, "a:c\n"), 9), wrote(reads(0), 5), over(writes(0, "plain\n"), 6), wrote(ends(), 0))
	holdSteps(t, made(t, 2, of(api.KindUniq, 1), none), reads(0),
		took("a\na\nb\n", writes(0, "2 a\n"), 5), wrote(reads(0), 1), over(writes(0, "1 b\n"), 4), wrote(ends(), 0))
	holdSteps(t, made(t, 2, of(api.KindCount, 0), none), reads(0),
		took("a\nbc", reads(0), 0), over(writes(0, "1 4\n"), 4), wrote(ends(), 0))
	holdSteps(t, made(t, 2, of(api.KindNumber, 9), none), reads(0),
		took("a\nb", writes(0, "9 a\n"), 5), wrote(reads(0), 1), over(writes(0, "10 b\n"), 5), wrote(ends(), 0))
	holdSteps(t, made(t, 2, of(api.KindSort, 0), none), reads(0),
		took("bb\na\nc", reads(0), 4), over(writes(0, "a\n"), 5), wrote(writes(0, "bb\n"), 4), wrote(writes(0, "c\n"), 2), wrote(ends(), 0))
	holdSteps(t, made(t, 2, of(api.KindChain, 2), none), reads(0),
		took("ab", writes(0, "ab"), 2), wrote(reads(0), 0), over(reads(1), 0), took("c", writes(0, "c"), 1), wrote(reads(1), 0), over(ends(), 0))
	holdSteps(t, made(t, 2, by(api.KindPaste, 2, ","), none), reads(0),
		took("a\nb", reads(1), 2), took("x\n", writes(0, "a,x\n"), 5), wrote(reads(0), 1), over(reads(1), 1), over(writes(0, "b,\n"), 3), wrote(ends(), 0))
	holdSteps(t, made(t, 2, by(api.KindJoin, 2, ","), none), reads(0),
		took("k,1\nk,2\nl", reads(0), 7), took("\n", reads(1), 7), took("k,3\nm,4\n", writes(0, "k,1,3\n"), 19),
		wrote(writes(0, "k,2,3\n"), 10), wrote(reads(0), 4), over(reads(1), 4), over(ends(), 0))
	holdSteps(t, made(t, 2, of(api.KindTee, 2), none), reads(0),
		took("ab", writes(0, "ab"), 4), wrote(writes(1, "ab"), 2), wrote(reads(0), 0), over(ends(), 0))
	holdSteps(t, made(t, 2, of(api.KindSplit, 2), none), reads(0),
		took("a\nb\nc", writes(0, "a\n"), 5), wrote(writes(1, "b\n"), 3), wrote(reads(0), 1), over(writes(0, "c\n"), 2), wrote(ends(), 0))
}

// P19.2, P19.3: an out of more than MaxChunk bytes is written by several moves.
func TestALongOutIsWrittenInChunks(t *testing.T) {
	for size, chunks := range map[int][]int{30: {31}, 31: {32}, 32: {32, 1}, 63: {32, 32}, 64: {32, 32, 1}} {
		text := rig.Word(size) + "\n"
		x := made(t, 2, of(api.KindSplit, 2), none)
		d := driverOf(t, x, of(api.KindSplit, 2))
		d.took("a\n")
		d.isDone("Wrote", x.Wrote())
		for chunk := range slices.Chunk([]byte(text[:size]), 32) {
			d.took(string(chunk))
		}
		d.took("\nb\nc")
		left := len(text) + 3
		for _, n := range chunks {
			sees(t, "a chunk", x, writes(1, text[:n]), left)
			text, left = text[n:], left-n
			d.isDone("Wrote", x.Wrote())
		}
		sees(t, "the line", x, writes(0, "b\n"), 3)
		d.isDone("Wrote", x.Wrote())
		sees(t, "both", x, reads(0), 1)
	}
}

// P19.2: what is pending is written ahead of a failure, be it by a trouble or by the
// machine's own error.
func TestWhatIsPendingIsWrittenAheadOfAFailure(t *testing.T) {
	holdSteps(t, made(t, 2, of(api.KindNumber, 0), panicsAt(0, 5, 6)), reads(0),
		took("a\nb\ncd", writes(0, "0 a\n"), 9),
		wrote(writes(0, "1 b\n"), 5),
		wrote(fails(api.ErrPanic, 2, 6), 1))
	text := rig.Word(32) + "\n"
	holdSteps(t, made(t, 2, of(api.KindHead, 9), panicsAt(0, 34, 6)), reads(0),
		took(text[:32], reads(0), 32),
		took("\nab\n", writes(0, text[:32]), 34),
		wrote(writes(0, "\n"), 2),
		wrote(fails(api.ErrPanic, 2, 6), 1))
	holdSteps(t, made(t, -4, by(api.KindJoin, 2, ","), none), reads(0),
		took("b,1\nb,2\na\n", fails(api.ErrOrder, -4, 0), 0))
	holdSteps(t, made(t, 2, by(api.KindJoin, 1, ","), none), reads(0),
		took("a\nb,1\nb,2\n", reads(1), 7),
		took("a\nb\n", writes(0, "a,,\n"), 4),
		wrote(fails(api.ErrGroup, 2, 0), 0))
}

// P19.3: a machine's error has the stage's number, and no Id.
func TestAMachinesOwnError(t *testing.T) {
	for _, number := range []int{0, 2, -1, 1 << 40} {
		x := made(t, number, of(api.KindHead, 1), none)
		holdSteps(t, x, reads(0),
			took(rig.Word(32), reads(0), 32),
			took(rig.Word(32), reads(0), 64),
			took("x", fails(api.ErrLong, number, 0), 0))
	}
}

// P19.3: it fails by the fault as that is, be it none.
func TestBrokeFailsByTheFault(t *testing.T) {
	for _, f := range []api.Fault{{}, {Code: api.ErrRaw, Stage: 4, Id: 5}, {Code: api.ErrJam, Stage: -1}, {Stage: 3, Id: 9}, {Code: -1, Stage: -5, Id: -6}} {
		want := api.Move{Kind: api.MoveFail, Fault: f}
		holdSteps(t, made(t, 2, of(api.KindTail, 2), none), reads(0),
			took("a\nb", reads(0), 2), broke(f, want, 2))
		holdSteps(t, made(t, 2, of(api.KindSort, 0), none), reads(0),
			took("a\nb", reads(0), 2), broke(f, want, 2), closed(want, 0))
		holdSteps(t, made(t, 2, by(api.KindPaste, 2, ","), none), reads(0),
			over(reads(1), 0), broke(f, want, 0))
		x := made(t, 2, of(api.KindSink, 0), none)
		holdSteps(t, x, reads(0), took("ab", reads(0), 0), broke(f, want, 0))
		if s := x.Sunk(); string(s.Bytes) != "ab" || s.Ended || s.Err != f {
			t.Errorf("Sunk %+v; want ab, fault %+v", s, f)
		}
		driverOf(t, x, of(api.KindSink, 0)).refuses()
	}
}

// P19.2: a fault behind which there is nothing to be written comes at once, also when the
// machine has heard all that it needs of another input.
func TestABrokenInputThatIsNeeded(t *testing.T) {
	for at, held := range []int{0, 1, 2} {
		x := made(t, 2, of(api.KindTail, 1), panicsAt(0, at, at))
		holdSteps(t, x, reads(0), took("abc", fails(api.ErrPanic, 2, at), held))
		driverOf(t, x, of(api.KindTail, 1)).refuses()
	}
	holdSteps(t, made(t, 2, by(api.KindPaste, 2, ","), panicsAt(0, 3, 1)), reads(0),
		took("a\nbcd", reads(1), 2),
		took("x\ny\n", writes(0, "a,x\n"), 6),
		wrote(fails(api.ErrPanic, 2, 1), 2))
	holdSteps(t, made(t, 2, by(api.KindPaste, 2, ","), panicsAt(0, 2, 1)), reads(0),
		took("a\nbcd", reads(1), 1),
		over(writes(0, "a,\n"), 3),
		wrote(fails(api.ErrPanic, 2, 1), 0))
	holdSteps(t, made(t, 2, by(api.KindPaste, 2, ","), panicsAt(0, 2, 1)), reads(0),
		took("a\nbcd", reads(1), 1),
		broke(api.Fault{Code: api.ErrRaw, Stage: 1, Id: 9}, fails(api.ErrRaw, 1, 9), 1))
}

// P19.2: one that is not needed any more does nothing.
func TestABrokenInputThatIsNotNeeded(t *testing.T) {
	for at := 2; at <= 4; at++ {
		x := made(t, 2, of(api.KindHead, 1), panicsAt(0, at, 1))
		holdSteps(t, x, reads(0), took("a\nbc", writes(0, "a\n"), 2), wrote(ends(), 0))
	}
	holdSteps(t, made(t, 2, of(api.KindHead, 1), panicsAt(0, 1, 1)), reads(0),
		took("a\nbc", fails(api.ErrPanic, 2, 1), 1))
	holdSteps(t, made(t, 2, by(api.KindJoin, 1, ","), panicsAt(0, 4, 1)), reads(0),
		took("a\nb\nc", reads(1), 2), over(ends(), 0))
	holdSteps(t, made(t, 2, by(api.KindJoin, 2, ","), panicsAt(1, 4, 1)), reads(0),
		took("a\n", reads(0), 1), over(reads(1), 1),
		took("a\nb\nc", writes(0, "a,,\n"), 4), wrote(ends(), 0))
	holdSteps(t, made(t, 2, by(api.KindJoin, 2, ","), panicsAt(1, 4, 1)), reads(0),
		took("a\nb\n", reads(1), 2),
		took("a\nb\nc", writes(0, "a,,\n"), 6), wrote(reads(0), 2),
		took("b\nc", reads(0), 4), took("\n", fails(api.ErrPanic, 2, 1), 4))
}

// P19.2: nor is it looked at what stands behind a trouble: not an end of a line, nor a
// byte by which a line is too long.
func TestWhatStandsBehindATroubleIsNotLookedAt(t *testing.T) {
	for ahead := range 3 {
		text := rig.Word(62 + ahead)
		for _, behind := range []string{"\n", "xxxxx", "x\nb\nc\n"} {
			x := made(t, 2, of(api.KindNumber, 0), panicsAt(0, 62+ahead, 3))
			holdSteps(t, x, reads(0),
				took(text[:32], reads(0), 32),
				took(text[32:60], reads(0), 60),
				took(text[60:]+behind, fails(api.ErrPanic, 2, 3), 62+ahead))
		}
	}
}

// P19.3: just as many bytes as reach a trouble do not meet it; the end may come then.
func TestBytesThatReachATrouble(t *testing.T) {
	for at := 1; at <= 32; at++ {
		text := strings.Repeat("b", at)
		x := made(t, 2, of(api.KindTail, 1), panicsAt(0, at, 3))
		holdSteps(t, x, reads(0), took(text, reads(0), at), took("b", fails(api.ErrPanic, 2, 3), at))
		x = made(t, 2, of(api.KindTail, 1), panicsAt(0, at, 3))
		holdSteps(t, x, reads(0), took(text, reads(0), at), took("bbb", fails(api.ErrPanic, 2, 3), at))
		x = made(t, 2, of(api.KindCount, 0), panicsAt(0, at, 3))
		holdSteps(t, x, reads(0), took(text, reads(0), 0), over(writes(0, "0 "+itoa(at)+"\n"), 3+len(itoa(at))), wrote(ends(), 0))
		x = made(t, 2, of(api.KindTail, 1), panicsAt(0, at, 3))
		holdSteps(t, x, reads(0), took(text[:at-1]+"xy"[:1], reads(0), at), took("y", fails(api.ErrPanic, 2, 3), at))
	}
}

// P19.4: Close of a sort, at each step; Close of others does nothing (refuses holds that).
func TestClose(t *testing.T) {
	sort := func() *Stage { return made(t, 2, of(api.KindSort, 0), none) }
	holdSteps(t, sort(), reads(0), closed(ends(), 0), closed(ends(), 0))
	holdSteps(t, sort(), reads(0), took("a\nb", reads(0), 2), closed(ends(), 0), closed(ends(), 0))
	holdSteps(t, sort(), reads(0), took("b\na\nc", reads(0), 3),
		over(writes(0, "a\n"), 4), closed(writes(0, "a\n"), 2), wrote(ends(), 0), closed(ends(), 0))
	x := sort()
	d := driverOf(t, x, of(api.KindSort, 0), whole(strings.Repeat(rig.Word(60)+"\n", 9)+"z"))
	for range 12 {
		d.handOn(0, 32)
	}
	x.Close()
	sees(t, "Close", x, ends(), 0)
	d.refuses()
	holdSteps(t, made(t, 2, of(api.KindSort, 0), panicsAt(0, 3, 1)), reads(0),
		took("a\nbc", fails(api.ErrPanic, 2, 1), 2), closed(fails(api.ErrPanic, 2, 1), 0), closed(fails(api.ErrPanic, 2, 1), 0))
}

// P19.7: the most that some stages hold.
func TestTheMostThatIsHeld(t *testing.T) {
	x := made(t, 2, of(api.KindTail, 31), none)
	d := driverOf(t, x, of(api.KindTail, 31))
	for chunk := range slices.Chunk([]byte(strings.Repeat(rig.Word(64)+"\n", 31)+rig.Word(64)), 32) {
		d.took(string(chunk))
		d.look()
	}
	sees(t, "32 lines", x, reads(0), 2048)
	d.isDone("Over", x.Over())
	sees(t, "Over", x, writes(0, rig.Word(64)[:32]), 31*64+1)
	x = made(t, 2, of(api.KindNumber, api.MaxN), none)
	d = driverOf(t, x, of(api.KindNumber, api.MaxN))
	d.took(strings.Repeat("\n", 32))
	sees(t, "32 lines", x, writes(0, "1000000000 \n"), 32*12)
}
