package spool

import (
	"fmt"
	"slices"
	"strings"
	"testing"

	"penstock/api"
	"penstock/files"
	"penstock/params"
	"penstock/rig"
)

// The calls of a disk.
const (
	create = iota
	write
	read
	remove
)

// call is one of them. Which run a Read is of, and where, can't be seen of a disk.
type call struct {
	kind, no int
	text     string
}

// step is what a call of a machine comes to, if no call of its disk fails: what it tells,
// the calls of the disk behind that, and what it asks for and holds then.
type step struct {
	out        string
	calls      []call
	need, held int
}

// ahead holds two lines against one another, byte by byte.
func ahead(n int, a, b string) int {
	if n == 1 {
		a, b = b, a
	}
	return slices.Compare([]byte(a), []byte(b))
}

// inOrder are lines in their order.
func inOrder(n int, lines []string) []string {
	lines = slices.Clone(lines)
	slices.SortStableFunc(lines, func(a, b string) int { return ahead(n, a, b) })
	return lines
}

// sizeOfAll is how many bytes lines have.
func sizeOfAll(lines []string) int { return len(strings.Join(lines, "")) }

// paper is what a disk is asked, and the runs that are there then: each is its number, and
// its lines.
type paper struct {
	n       int
	calls   []call
	created int
	runs    []filed
}

type filed struct {
	no    int
	lines []string
}

// spill writes lines to a new run.
func (p *paper) spill(lines []string) {
	p.created++
	p.calls = append(p.calls, call{kind: create, no: p.created})
	for _, text := range inOrder(p.n, lines) {
		p.calls = append(p.calls, call{write, p.created, text + "\n"})
	}
	p.runs = append(p.runs, filed{p.created, inOrder(p.n, lines)})
}

// merge writes the lines of such runs to a new one: each Write is followed by a Read of
// the run from which the line came.
func (p *paper) merge(runs []filed) filed {
	var all []string
	for _, r := range runs {
		all = append(all, r.lines...)
	}
	p.created++
	merged := filed{p.created, inOrder(p.n, all)}
	p.calls = append(p.calls, call{kind: create, no: p.created})
	p.calls = append(p.calls, slices.Repeat([]call{{kind: read}}, len(runs))...)
	for _, text := range merged.lines {
		p.calls = append(p.calls, call{write, p.created, text + "\n"}, call{kind: read})
	}
	p.calls = append(p.calls, removes(runs)...)
	return merged
}

// removes are the calls that remove runs.
func removes(runs []filed) []call {
	var calls []call
	for _, r := range runs {
		calls = append(calls, call{kind: remove, no: r.no})
	}
	return calls
}

// passes merges runs, three by three, till there are three at most.
func (p *paper) passes() {
	for len(p.runs) > 3 {
		var left []filed
		for ; len(p.runs) > 1; p.runs = p.runs[min(3, len(p.runs)):] {
			left = append(left, p.merge(p.runs[:min(3, len(p.runs))]))
		}
		p.runs = append(left, p.runs...)
	}
}

// tell are the steps by which the lines of all runs are told. The first one is that by
// which the input ends.
func (p *paper) tell() []step {
	p.calls = append(p.calls, slices.Repeat([]call{{kind: read}}, len(p.runs))...)
	steps := []step{{"", p.calls, api.More, p.nextSize()}}
	all := removes(p.runs)
	for len(p.runs) > 0 {
		least := 0
		for i, r := range p.runs {
			if ahead(p.n, r.lines[0], p.runs[least].lines[0]) < 0 {
				least = i
			}
		}
		s := step{p.runs[least].lines[0] + "\n", []call{{kind: read}}, api.More, 0}
		p.runs[least].lines = p.runs[least].lines[1:]
		p.runs = slices.DeleteFunc(p.runs, func(r filed) bool { return len(r.lines) == 0 })
		s.held = p.nextSize()
		if len(p.runs) == 0 {
			s.need, s.calls = api.Ended, append(s.calls, all...)
		}
		steps = append(steps, s)
	}
	return steps
}

// nextSize is how many bytes the first lines of runs have.
func (p *paper) nextSize() int {
	size := 0
	for _, r := range p.runs {
		size += len(r.lines[0])
	}
	return size
}

// tellKept are the steps by which lines are told that were never spilt.
func tellKept(lines []string) []step {
	var steps []step
	for at := 0; at <= len(lines); at++ {
		s := step{need: api.More, held: sizeOfAll(lines[at:])}
		if at > 0 {
			s.out = lines[at-1] + "\n"
		}
		if at == len(lines) {
			s.need = api.Ended
		}
		steps = append(steps, s)
	}
	return steps
}

// planned is the last plan that was made: while pieces are told the same one is asked for
// again and again.
var planned struct {
	n       int
	in      rig.Input
	steps   []step
	tooLong bool
}

// plan is such a plan.
func plan(n int, in rig.Input) ([]step, bool) {
	if planned.steps == nil || planned.n != n || planned.in != in {
		planned.n, planned.in = n, in
		planned.steps, planned.tooLong = newPlan(n, in)
	}
	return planned.steps, planned.tooLong
}

// newPlan reckons what comes of the call by which the last bytes of an input have come, or
// its end, with all calls of the disk by then; and of each More behind it. It tells, too,
// whether a line is too long.
func newPlan(n int, in rig.Input) ([]step, bool) {
	p := &paper{n: n}
	var kept []string
	size := 0
	lines := strings.Split(in.Text, "\n")
	for i, text := range lines {
		last := i == len(lines)-1
		switch {
		case len(text) > 64:
			return []step{{"", p.calls, api.Ended, 0}}, true
		case last && !in.Ended:
			return []step{{"", p.calls, 0, size + len(text)}}, false
		case last && text == "":
			continue
		}
		if size+len(kept)+len(text)+1 > 256 {
			p.spill(kept)
			kept, size = nil, 0
		}
		kept = append(kept, text)
		size += len(text)
	}
	if p.created == 0 {
		return tellKept(inOrder(n, kept)), false
	}
	p.spill(kept)
	p.passes()
	return p.tell(), false
}

// seen is what is seen of a machine and of its disk: all that came out by now, the last
// call's error, what the machine asks for, holds, and tells by Raw, how many calls of the
// disk there were, and which files are there, with their bytes.
type seen struct {
	out                    string
	err                    api.Errno
	need, held, raw, calls int
	disk                   string
}

// shelf is files by their numbers, from 1 on; nil ones are not there. It counts calls.
type shelf struct {
	script []api.FileFail
	calls  int
	raw    int
	texts  []*string
}

// do does a call, if it does not fail.
func (s *shelf) do(c call) api.Errno {
	if c.kind == create && len(s.texts) == 64 {
		return api.ErrMany
	}
	at := slices.IndexFunc(s.script, func(f api.FileFail) bool { return f.Call == s.calls })
	s.calls++
	if at >= 0 {
		s.raw = s.script[at].Id
		return api.ErrRaw
	}
	switch c.kind {
	case create:
		s.texts = append(s.texts, new(string))
	case write:
		*s.texts[c.no-1] += c.text
	case remove:
		s.texts[c.no-1] = nil
	}
	return api.OK
}

// String is what diskOf tells of such a disk.
func (s *shelf) String() string {
	all := ""
	for i, text := range s.texts {
		if text != nil {
			all += fmt.Sprintf("%d:%q ", i+1, *text)
		}
	}
	return all
}

// diskOf tells which files are on a disk, and their bytes. It asks a copy, which counts
// calls by itself; where its script makes a Read fail, it reads again.
func diskOf(t *testing.T, d *files.Disk) string {
	t.Helper()
	look, all := *d, ""
	for _, no := range look.Live() {
		b, e := look.Read(no, 0, 1<<20)
		for e == api.ErrRaw {
			b, e = look.Read(no, 0, 1<<20)
		}
		if e != api.OK {
			t.Fatalf("Read of file %d: error %d", no, e)
		}
		all += fmt.Sprintf("%d:%q ", no, b)
	}
	return all
}

// reckon says what is seen of a machine that has had so much of its input, and then so
// many Mores, by a script; of one that fails, when it fails.
func reckon(n int, script []api.FileFail, in rig.Input, mores int) seen {
	steps, tooLong := plan(n, in)
	s := &shelf{script: script}
	now := seen{}
	for _, step := range steps[:min(mores+1, len(steps))] {
		now.out += step.out
		now.need, now.held = step.need, step.held
		for _, c := range step.calls {
			if now.err = s.do(c); now.err != api.OK {
				now.need, now.held, now.calls, now.disk = api.Ended, 0, s.calls, s.String()
				if now.err == api.ErrRaw {
					now.raw = s.raw
				}
				return now
			}
		}
	}
	if tooLong {
		now.err = api.ErrLong
	}
	now.calls, now.disk = s.calls, s.String()
	return now
}

// sortsBy are sorts on disks of a script, held against reckon.
func sortsBy(script ...api.FileFail) rig.Subject {
	return rig.Subject{
		New: func(p api.Params) (api.Machine, api.Errno) {
			s, e := New(p, files.New(script...))
			if s == nil {
				return nil, e
			}
			return s, e
		},
		Reckon: rig.OfOne(func(p api.Params, in rig.Input) rig.Seen {
			now := reckon(p.N, script, in, len(in.Text)+1)
			return rig.Seen{Out: now.out, Need: now.need, Err: now.err, Held: now.held}
		}),
	}
}

// sorts are what is tested, on disks of which no call fails.
var sorts = sortsBy()

// sorting is a machine at work, its disk, and what it was handed.
type sorting struct {
	t      *testing.T
	n      int
	script []api.FileFail
	s      *Sorter
	d      *files.Disk
	in     rig.Input
	mores  int
	now    seen
}

// of makes the parameters of a sort.
func of(n int) api.Params { return api.Params{Kind: api.KindSort, N: n} }

// fail is one line of a script.
func fail(at, id int) api.FileFail { return api.FileFail{Call: at, Id: id} }

// made makes a sort, on a disk of a script.
func made(t *testing.T, n int, script ...api.FileFail) (*Sorter, *files.Disk) {
	t.Helper()
	d := files.New(script...)
	s, e := New(of(n), d)
	if s == nil || e != api.OK {
		t.Fatalf("New of N %d: %v, error %d", n, s, e)
	}
	return s, d
}

// begin makes such a sort, of which each step is held against reckon.
func begin(t *testing.T, n int, script ...api.FileFail) *sorting {
	t.Helper()
	x := &sorting{t: t, n: n, script: script}
	x.s, x.d = made(t, n, script...)
	x.note(nil, api.OK)
	return x
}

// note holds what is seen behind a call against reckon.
func (x *sorting) note(outs []api.Out, e api.Errno) {
	x.t.Helper()
	if len(outs) > 1 || len(outs) == 1 && outs[0].Port != 0 {
		x.t.Fatalf("%d outs; want one at most, of output 0", len(outs))
	}
	x.now = seen{x.now.out + rig.Text(outs), e, x.s.Need(), x.s.Held(), x.s.Raw(), x.d.Calls(), diskOf(x.t, x.d)}
	if want := reckon(x.n, x.script, x.in, x.mores); x.now != want {
		x.t.Fatalf("N %d, script %v, input %v, %d Mores:\n%+v; want\n%+v", x.n, x.script, x.in, x.mores, x.now, want)
	}
	if bound, _ := params.Bound(of(x.n)); x.now.held > bound {
		x.t.Fatalf("N %d, input %v: it holds %d bytes; at most %d", x.n, x.in, x.now.held, bound)
	}
}

// feed hands on bytes, by chunks whose sizes come by turns, till it fails.
func (x *sorting) feed(text string, sizes ...int) {
	x.t.Helper()
	for k := 0; text != "" && x.now.need == 0; k++ {
		chunk := text[:min(sizes[k%len(sizes)], len(text))]
		text = text[len(chunk):]
		x.in.Text += chunk
		x.note(x.s.Feed(0, []byte(chunk)))
	}
}

// end tells the input's end, unless it has failed.
func (x *sorting) end() {
	x.t.Helper()
	if x.now.need == 0 {
		x.in.Ended = true
		x.note(x.s.End(0))
	}
}

// more asks for at most so many pieces.
func (x *sorting) more(most int) {
	x.t.Helper()
	for ; most > 0 && x.now.need == api.More; most-- {
		x.mores++
		x.note(x.s.More())
	}
}

// run hands on an input, and asks for all pieces.
func (x *sorting) run(in rig.Input, sizes ...int) {
	x.t.Helper()
	x.feed(in.Text, sizes...)
	if in.Ended {
		x.end()
	}
	x.more(len(x.in.Text) + 1)
}

// close closes it: all files are gone, by a Remove each, of which none may fail.
func (x *sorting) close() {
	x.t.Helper()
	calls, live, raw := x.d.Calls(), len(x.d.Live()), x.s.Raw()
	if e := x.s.Close(); e != api.OK {
		x.t.Fatalf("N %d, script %v, input %v: Close: error %d", x.n, x.script, x.in, e)
	}
	x.isClosed(calls+live, raw)
}

// isClosed holds what is seen behind Close against one on whose disk nothing is left,
// behind so many calls.
func (x *sorting) isClosed(calls, raw int) {
	x.t.Helper()
	got := seen{need: x.s.Need(), held: x.s.Held(), raw: x.s.Raw(), calls: x.d.Calls(), disk: diskOf(x.t, x.d)}
	if want := (seen{need: api.Ended, raw: raw, calls: calls}); got != want {
		x.t.Fatalf("N %d, script %v, input %v, behind Close:\n%+v; want\n%+v", x.n, x.script, x.in, got, want)
	}
}
