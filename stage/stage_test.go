package stage

import (
	"math"
	"slices"
	"strconv"
	"strings"
	"testing"

	"penstock/api"
	"penstock/params"
	"penstock/rig"
)

// itoa is a number in decimal digits.
func itoa(n int) string { return strconv.Itoa(n) }

// sourcesOf is a script of sources that have these bytes.
func sourcesOf(texts ...string) api.Script {
	var s api.Script
	for _, text := range texts {
		s.Sources = append(s.Sources, api.Source{Bytes: []byte(text)})
	}
	return s
}

// P19.1, P19.2: of each kind, by any number.
func TestNewMakesAStageOfEachKind(t *testing.T) {
	for _, p := range append(rig.OneOfEachKind(), append(readersOfOne(), readersOfSome()...)...) {
		want := reads(0)
		if p.Kind == api.KindSource || p.Kind == api.KindHead && p.N == 0 {
			want = ends()
		}
		for _, number := range []int{0, 1, 15, 16, -1, math.MaxInt, math.MinInt} {
			holdSteps(t, made(t, number, p, none), want)
		}
	}
}

// P19.1
func TestNewRefuses(t *testing.T) {
	for _, r := range append(rig.MayNotBe(),
		rig.Refusal{P: of(api.KindSource, -1), Err: api.ErrParam},
		rig.Refusal{P: of(api.KindSource, 16), Err: api.ErrParam},
		rig.Refusal{P: by(api.KindSource, 0, "a"), Err: api.ErrParam},
		rig.Refusal{P: api.Params{Kind: api.KindSource, B: []byte("a")}, Err: api.ErrParam},
		rig.Refusal{P: of(api.KindSink, 16), Err: api.ErrParam},
		rig.Refusal{P: by(api.KindSink, 0, "a"), Err: api.ErrParam},
		rig.Refusal{P: of(api.KindSort, 2), Err: api.ErrParam},
		rig.Refusal{P: of(api.KindTee, 5), Err: api.ErrParam},
		rig.Refusal{P: of(api.KindSplit, 0), Err: api.ErrParam},
	) {
		for _, s := range []api.Script{none, sourcesOf(strings.Repeat("a", 5000), "b"), panicsAt(0, 0, 1)} {
			if x, e := New(2, r.P, s); x != nil || e != r.Err {
				t.Errorf("New of %+v: %v, error %d; want none, %d", r.P, x, e, r.Err)
			}
		}
	}
}

// P19.1: a source of 4096 bytes, and of one more; that of another number, or of another
// kind of stage, may have more.
func TestASourceOfTooManyBytes(t *testing.T) {
	most, more := strings.Repeat("a\nb", 1365)+"c", strings.Repeat("a\nb", 1365)+"cd"
	s := sourcesOf(most, more, "x")
	for n, want := range map[int]api.Errno{0: api.OK, 1: api.ErrMany, 2: api.OK, 3: api.OK, 15: api.OK} {
		x, e := New(1, of(api.KindSource, n), s)
		if (x == nil) != (want != api.OK) || e != want {
			t.Errorf("source %d: %v, error %d; want %d", n, x, e, want)
		}
	}
	s.Panics = []api.Trouble{{Stage: 1, At: 3}}
	if x, e := New(1, of(api.KindSource, 1), s); x != nil || e != api.ErrMany {
		t.Errorf("cut at its byte 3: %v, error %d; want none, ErrMany", x, e)
	}
	for _, p := range rig.OneOfEachKind() {
		if p.Kind != api.KindSource {
			made(t, 1, p, s)
		}
	}
	if c := run(t, 0, of(api.KindSource, 0), s, nil, 1); c != to(most, ended) {
		t.Errorf("of 4096 bytes: %+v", c)
	}
}

// P19.2: the script's Sources[N], or none.
func TestASourceHasItsOwnBytes(t *testing.T) {
	s := sourcesOf("a", "", "ccc\n")
	for n, want := range []string{"a", "", "ccc\n", "", "", 15: ""} {
		for _, number := range []int{0, 2, 7} {
			if c := run(t, number, of(api.KindSource, n), s, nil, 1); c != to(want, ended) {
				t.Errorf("source %d: %+v; want %q", n, c, want)
			}
		}
	}
	if c := run(t, 0, of(api.KindSource, 0), none, nil, 1); c != to("", ended) {
		t.Errorf("no sources: %+v", c)
	}
}

// chunksOf are the sizes of the chunks that a source writes.
func chunksOf(t *testing.T, size int, cuts ...int) []int {
	t.Helper()
	s := api.Script{Sources: []api.Source{{Bytes: []byte(rig.Word(size)), Cuts: cuts}}}
	x := made(t, 0, of(api.KindSource, 0), s)
	d := driverOf(t, x, of(api.KindSource, 0))
	var sizes []int
	for l := d.look(); l.end.kind == api.MoveWrite; l = d.look() {
		sizes = append(sizes, len(l.text))
		d.outs[0] += l.text
		d.isDone("Wrote", x.Wrote())
	}
	if d.look().end != ended || d.outs[0] != rig.Word(size) {
		t.Fatalf("Cuts %v: %q, %+v; want %q", cuts, d.outs[0], d.look(), rig.Word(size))
	}
	return sizes
}

// P19.2
func TestASourcesChunks(t *testing.T) {
	for _, c := range []struct {
		size int
		cuts []int
		want []int
	}{
		{0, nil, nil},
		{0, []int{3}, nil},
		{1, nil, []int{1}},
		{31, nil, []int{31}},
		{32, nil, []int{32}},
		{33, nil, []int{32, 1}},
		{33, []int{}, []int{32, 1}},
		{70, nil, []int{32, 32, 6}},
		{3, []int{0}, []int{1, 1, 1}},
		{5, []int{1}, []int{2, 2, 1}},
		{70, []int{31}, []int{32, 32, 6}},
		{3, []int{32}, []int{1, 1, 1}},
		{5, []int{33}, []int{2, 2, 1}},
		{3, []int{64}, []int{1, 1, 1}},
		{70, []int{63}, []int{32, 32, 6}},
		{5, []int{-1}, []int{2, 2, 1}},
		{70, []int{-31}, []int{32, 32, 6}},
		{3, []int{-32}, []int{1, 1, 1}},
		{5, []int{-33}, []int{2, 2, 1}},
		{3, []int{math.MinInt}, []int{1, 1, 1}},
		{70, []int{math.MinInt + 1}, []int{32, 32, 6}},
		{70, []int{math.MaxInt}, []int{32, 32, 6}},
		{20, []int{1, 4, 0}, []int{2, 5, 1, 2, 5, 1, 2, 2}},
		{6, []int{1, 4, 0}, []int{2, 4}},
		{9, []int{-2, 40, math.MinInt, 2}, []int{3, 6}},
		{14, []int{-2, 40, math.MinInt, 2}, []int{3, 9, 1, 1}},
		{2, []int{9, 9, 9, 9, 9}, []int{2}},
	} {
		if got := chunksOf(t, c.size, c.cuts...); !slices.Equal(got, c.want) {
			t.Errorf("%d bytes, Cuts %v: %v; want %v", c.size, c.cuts, got, c.want)
		}
	}
}

// P19.2: a trouble cuts the last chunk, and comes behind it: where its byte is there,
// ahead of the source's own failing.
func TestASourcesTroubles(t *testing.T) {
	for _, size := range []int{0, 1, 2, 33, 64, 4096} {
		text := strings.Repeat("a\nb", size/3+1)[:size]
		for _, at := range []int{-1, math.MinInt, 0, 1, 2, 31, 32, 33, size - 1, size, size + 1, math.MaxInt} {
			for _, own := range []api.Source{{Bytes: []byte(text)}, {Bytes: []byte(text), Id: 3}, {Bytes: []byte(text), Fails: true, Id: 3, Cuts: []int{4, 0, 31}}} {
				s := api.Script{
					Sources: []api.Source{{}, own},
					Panics:  []api.Trouble{{Stage: 2, In: 1, At: 0, Id: 4}, {Stage: 2, At: at, Id: 5}, {Stage: 1, At: 0, Id: 6}},
					Stops:   []api.Trouble{{Stage: 2, At: 0, Id: 7}},
				}
				want := to(text, ended)
				switch {
				case at >= 0 && at < size:
					want = to(text[:at], failing(api.ErrPanic, 2, 5))
				case own.Fails:
					want = to(text, failing(api.ErrRaw, 2, 3))
				}
				d := driverOf(t, made(t, 2, of(api.KindSource, 1), s), of(api.KindSource, 1))
				d.pesters = size < 100
				if got := d.run(1); got != want {
					t.Errorf("%d bytes, at %d: %+v; want %+v", size, at, got, want)
				}
				d.refuses()
			}
		}
	}
}

// P19.3, P19.4: what a sink took, at each step.
func TestASink(t *testing.T) {
	p := of(api.KindSink, 0)
	x := made(t, 2, p, none)
	d := driverOf(t, x, p)
	text := ""
	if s := x.Sunk(); len(s.Bytes) != 0 || s.Ended || s.Err != (api.Fault{}) {
		t.Fatalf("Sunk %+v at first", s)
	}
	for i := range 1000 {
		chunk := rig.Word(1 + i%32)[:i%32] + "\n"
		d.took(chunk)
		text += chunk
		if l := d.look(); l.sunk != (sunken{text: text}) || l.end.kind != api.MoveRead {
			t.Fatalf("%d chunks: %+v", i+1, l)
		}
	}
	d.isDone("Over", x.Over())
	if l := d.look(); l.sunk != (sunken{text: text, ended: true}) || l.end != ended {
		t.Fatalf("Over: %+v", l)
	}
	d.refuses()
}

// P19.3, P19.4: a sink stops, or panics, at once, and has taken what stands ahead of that.
func TestASinksTroubles(t *testing.T) {
	for at := range 5 {
		for code, s := range map[api.Errno]api.Script{
			api.ErrPanic: {Panics: []api.Trouble{{Stage: 2, At: at, Id: 8}}},
			api.ErrRaw:   {Stops: []api.Trouble{{Stage: 2, At: at, Id: 8}}},
		} {
			x := made(t, 2, of(api.KindSink, 0), s)
			first := reads(0)
			if at < 3 {
				first = fails(code, 2, 8)
			}
			holdSteps(t, x, reads(0), took("a\nb", first, 0))
			if at >= 3 {
				holdSteps(t, made(t, 2, of(api.KindSink, 0), s), reads(0), took("a\nb", first, 0), over(ends(), 0))
				x.Took([]byte("cd\n"))
				sees(t, "Took", x, fails(code, 2, 8), 0)
			}
			if sunk := x.Sunk(); string(sunk.Bytes) != "a\nbcd"[:at] || sunk.Ended || sunk.Err != (api.Fault{Code: code, Stage: 2, Id: 8}) {
				t.Errorf("at %d: Sunk %+v", at, sunk)
			}
			driverOf(t, x, of(api.KindSink, 0)).refuses()
		}
	}
}

// P19.3: which of several troubles an input has.
func TestWhichTroubleAnInputHas(t *testing.T) {
	at := func(at, id int) api.Trouble { return api.Trouble{Stage: 2, At: at, Id: id} }
	type list = []api.Trouble
	for _, c := range []struct {
		panics, stops list
		kind          int
		taken         string
		end           ending
	}{
		{nil, nil, api.KindSink, "abcdef", ended},
		{list{at(3, 1)}, nil, api.KindSink, "abc", failing(api.ErrPanic, 2, 1)},
		{nil, list{at(3, 1)}, api.KindSink, "abc", failing(api.ErrRaw, 2, 1)},
		{nil, list{at(3, 1)}, api.KindTee, "abcdef", ended},
		{list{at(3, 1), at(2, 2), at(4, 3)}, nil, api.KindTee, "ab", failing(api.ErrPanic, 2, 2)},
		{list{at(3, 1), at(2, 2), at(4, 3)}, nil, api.KindSink, "ab", failing(api.ErrPanic, 2, 2)},
		{nil, list{at(3, 1), at(2, 2), at(4, 3)}, api.KindSink, "ab", failing(api.ErrRaw, 2, 2)},
		{list{at(3, 1), at(3, 2)}, nil, api.KindTee, "abc", failing(api.ErrPanic, 2, 1)},
		{list{at(3, 2), at(3, 1)}, nil, api.KindSink, "abc", failing(api.ErrPanic, 2, 2)},
		{nil, list{at(3, 1), at(3, 2)}, api.KindSink, "abc", failing(api.ErrRaw, 2, 1)},
		{list{at(3, 1)}, list{at(3, 2)}, api.KindSink, "abc", failing(api.ErrPanic, 2, 1)},
		{list{at(4, 1)}, list{at(3, 2)}, api.KindSink, "abc", failing(api.ErrRaw, 2, 2)},
		{list{at(3, 1)}, list{at(4, 2)}, api.KindSink, "abc", failing(api.ErrPanic, 2, 1)},
		{list{at(9, 1), at(4, 4), at(4, 5)}, list{at(5, 2), at(4, 3)}, api.KindSink, "abcd", failing(api.ErrPanic, 2, 4)},
		{list{at(-1, 1), at(math.MinInt, 2)}, list{at(-1, 3), at(5, 4)}, api.KindSink, "abcde", failing(api.ErrRaw, 2, 4)},
		{list{at(-1, 1), at(1, 2)}, nil, api.KindTee, "a", failing(api.ErrPanic, 2, 2)},
		{list{at(6, 1), at(math.MaxInt, 2)}, list{at(6, 3)}, api.KindSink, "abcdef", ended},
		{list{at(5, 0)}, nil, api.KindTee, "abcde", failing(api.ErrPanic, 2, 0)},
		{list{{Stage: 1, At: 0}, {Stage: 3, At: 0}, {Stage: -2, At: 0}, {}}, list{{Stage: 1, At: 0}, {}}, api.KindSink, "abcdef", ended},
		{list{{Stage: 2, In: 1, At: 0}, {Stage: 2, In: -1, At: 0}, {Stage: 2, In: 1 << 40, At: 0}}, list{{Stage: 2, In: 1, At: 0}}, api.KindSink, "abcdef", ended},
		{list{{Stage: 1, At: 0}, at(2, -9)}, nil, api.KindTee, "ab", failing(api.ErrPanic, 2, -9)},
	} {
		s := api.Script{Panics: c.panics, Stops: c.stops}
		for _, sizes := range sizesOf() {
			got := run(t, 2, of(c.kind, c.kind/api.KindTee), s, wholes("abcdef"), sizes...)
			if taken := got.outs[0] + got.sunk.text; taken != c.taken || got.end != c.end {
				t.Errorf("panics %v, stops %v: %q, %+v; want %q, %+v", c.panics, c.stops, taken, got.end, c.taken, c.end)
			}
		}
	}
}

// P19.3: each input has its own trouble.
func TestEachInputHasItsOwnTrouble(t *testing.T) {
	p := of(api.KindChain, 4)
	for in := range 4 {
		s := api.Script{Panics: []api.Trouble{{Stage: 2, In: in, At: 1, Id: 10 + in}, {Stage: 2, In: (in + 1) % 4, At: 2, Id: 20}}}
		want := to("abcdefgh"[:2*in+1], failing(api.ErrPanic, 2, 10+in))
		if got := run(t, 2, p, s, wholes("ab", "cd", "ef", "gh"), 32); got != want {
			t.Errorf("input %d: %+v; want %+v", in, got, want)
		}
	}
}

// wide is so many lines of 64 bytes.
func wide(heads string) string {
	text := ""
	for _, c := range heads {
		text += strings.Repeat(string(c), 64) + "\n"
	}
	return text
}

// P19.3: a sort's disk is that of the first of those Files whose Stage it is.
func TestASortsDisk(t *testing.T) {
	p := of(api.KindSort, 0)
	failing7 := []api.FileFail{{Call: 1, Id: 7}}
	for _, c := range []struct {
		files []api.FileScript
		raw   int
	}{
		{nil, 0},
		{[]api.FileScript{{Stage: 2, Fails: failing7}}, 7},
		{[]api.FileScript{{Stage: 1, Fails: failing7}, {Stage: 3, Fails: failing7}, {Stage: -2, Fails: failing7}}, 0},
		{[]api.FileScript{{Stage: 1, Fails: failing7}, {Stage: 2, Fails: []api.FileFail{{Call: 2, Id: -8}}}}, -8},
		{[]api.FileScript{{Stage: 2}, {Stage: 2, Fails: failing7}}, 0},
		{[]api.FileScript{{Stage: 2, Fails: []api.FileFail{{Call: 99, Id: 6}}}, {Stage: 2, Fails: failing7}}, 0},
		{[]api.FileScript{{Stage: 2, Fails: []api.FileFail{{Call: 0, Id: 5}}}, {Stage: 2, Fails: failing7}}, 5},
	} {
		want := to(wide("abcde"), ended)
		if c.raw != 0 {
			want = to("", failing(api.ErrRaw, 2, c.raw))
		}
		if got := run(t, 2, p, api.Script{Files: c.files}, wholes(wide("caebd")), 7); got != want {
			t.Errorf("%+v: %+v; want %+v", c.files, got, want)
		}
	}
}

// P19.2, P19.3: each call of a sort's disk fails, one by one: what was told ahead of that
// is written.
func TestEachCallOfASortsDiskFails(t *testing.T) {
	p := of(api.KindSort, 0)
	all := wide("abcde")
	for call := range 18 {
		s := api.Script{Files: []api.FileScript{{Stage: 4, Fails: []api.FileFail{{Call: call, Id: 100 + call}}}}}
		want := to(all, ended)
		if call < 16 {
			told := min(5, max(0, call-8))
			want = to(all[:told*65], failing(api.ErrRaw, 4, 100+call))
		}
		if got := run(t, 4, p, s, wholes(wide("caebd")), 32); got != want {
			t.Errorf("call %d: %+v; want %+v", call, got, want)
		}
	}
}

// P19.2: a sort's error ErrMany has no Id.
func TestASortOfTooManyFiles(t *testing.T) {
	p := of(api.KindSort, 1)
	for _, count := range []int{64, 65} {
		x := made(t, 5, p, none)
		d := driverOf(t, x, p, open(strings.Repeat(wide("abc"), count)+wide("d")))
		for d.look().end.kind == api.MoveRead && d.handOn(0, 32) {
		}
		if want := fails(api.ErrMany, 5, 0); count == 65 {
			sees(t, "65 runs", x, want, 0)
		} else {
			sees(t, "64 runs", x, reads(0), 64)
		}
	}
}

// P19.4: only a sink has taken something.
func TestSunkOfNoSinkIsZero(t *testing.T) {
	for _, p := range rig.OneOfEachKind() {
		x := made(t, 0, p, sourcesOf("abc"))
		count, _, _ := params.Arity(p)
		driverOf(t, x, p, wholes("a\n", "b\n", "c\n", "d\n")[:count]...).run(1)
		s := x.Sunk()
		if isSink := p.Kind == api.KindSink; isSink != (string(s.Bytes) == "a\n") || isSink != s.Ended || s.Err != (api.Fault{}) {
			t.Errorf("%+v: Sunk %+v", p, s)
		}
	}
}

// P19.5
func TestOnesThatNewDidNotMake(t *testing.T) {
	for _, x := range []*Stage{nil, {}, new(Stage)} {
		for range 2 {
			if m := x.Move(); m.Kind != api.MoveEnd || m.Port != 0 || m.Bytes != nil || m.Fault != (api.Fault{}) {
				t.Errorf("Move %+v", m)
			}
			if x.Took([]byte("a")) || x.Took(nil) || x.Over() || x.Broke(api.Fault{}) || x.Broke(api.Fault{Code: api.ErrRaw}) || x.Wrote() {
				t.Errorf("a call is true")
			}
			x.Close()
			if s := x.Sunk(); x.Held() != 0 || s.Bytes != nil || s.Ended || s.Err != (api.Fault{}) {
				t.Errorf("Held %d, Sunk %+v", x.Held(), s)
			}
		}
	}
}

// P19.5: stages of one script share nothing, nor do the answers of one.
func TestStagesShareNothing(t *testing.T) {
	s := sourcesOf(rig.Word(50))
	p := of(api.KindSource, 0)
	one, other := made(t, 0, p, s), made(t, 1, p, s)
	one.Wrote()
	one.Wrote()
	sees(t, "Wrote of another one", other, writes(0, rig.Word(32)), 0)
	one, other = made(t, 0, of(api.KindSink, 0), s), made(t, 1, of(api.KindSink, 0), s)
	one.Took([]byte("a"))
	other.Took([]byte("b"))
	first := one.Sunk()
	one.Took([]byte("c"))
	if string(first.Bytes) != "a" || string(one.Sunk().Bytes) != "ac" || string(other.Sunk().Bytes) != "b" {
		t.Errorf("Sunk %+v, then %+v; of another one %+v", first, one.Sunk(), other.Sunk())
	}
	tee := made(t, 0, of(api.KindTee, 2), s)
	tee.Took([]byte("abc"))
	m := tee.Move()
	spoil(m.Bytes)
	tee.Wrote()
	sees(t, "Wrote", tee, writes(1, "abc"), 3)
	spoil(m.Bytes)
	sees(t, "Wrote", tee, writes(1, "abc"), 3)
}
