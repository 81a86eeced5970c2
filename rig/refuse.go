package rig

import (
	"bytes"
	"strings"

	"penstock/api"
)

// badChunks are bytes that are no chunk.
func badChunks() [][]byte {
	return [][]byte{nil, {}, []byte("s\n")[:0], bytes.Repeat([]byte("\n"), 33), make([]byte, 4096)}
}

// pester makes all calls that are to be refused now, if the driver is to.
func (d *Driver) pester() {
	d.test.Helper()
	if d.Pesters {
		d.Pester()
	}
}

// Pester makes all calls that are to be refused now.
func (d *Driver) Pester() {
	d.test.Helper()
	need, want := d.Seen.Need, api.ErrArg
	if need == api.Ended {
		want = api.ErrDone
	}
	for _, port := range []int{0, 1, 2, 3, 4, 5, -1, -2, -3, 1 << 40, -1 << 63} {
		if port >= 0 && port == need {
			d.pesterBy(port, want, badChunks())
			continue
		}
		d.pesterBy(port, want, append(badChunks(), []byte("p"), []byte("q\n")))
		outs, e := d.Machine.End(port)
		d.refused(outs, e, want)
	}
	if need != api.More {
		outs, e := d.Machine.More()
		d.refused(outs, e, want)
	}
}

// pesterBy feeds a port such bytes, all of which are to be refused.
func (d *Driver) pesterBy(port int, want api.Errno, chunks [][]byte) {
	d.test.Helper()
	for _, b := range chunks {
		outs, e := d.feed(port, b)
		d.refused(outs, e, want)
	}
}

// refused holds an answer, and what is seen behind it, against a refusal.
func (d *Driver) refused(outs []api.Out, e, want api.Errno) {
	d.test.Helper()
	if len(outs) != 0 || e != want {
		d.wrong("while Need is %d, a call is answered by %+v, error %d; want nothing, %d", d.Seen.Need, outs, e, want)
	}
	if need, held := d.Machine.Need(), d.Machine.Held(); need != d.Seen.Need || held != d.Seen.Held {
		d.wrong("Need %d, Held %d behind a refusal; %d, %d ahead of it", need, held, d.Seen.Need, d.Seen.Held)
	}
}

// Call is a call of a machine, and what it is.
type Call struct {
	Name string
	Make func(m api.Machine) ([]api.Out, api.Errno)
}

// UndueCalls are calls that are refused by any machine that reads its input, and by one
// that has ended.
func UndueCalls() []Call {
	return []Call{
		undueFeed("Feed of port 1", 1, "x\n"),
		undueFeed("Feed of port Ended", api.Ended, "x\n"),
		undueFeed("Feed of port More", api.More, "x\n"),
		undueFeed("Feed of no bytes", 0, ""),
		undueFeed("Feed of 33 bytes", 0, strings.Repeat("\n", 33)),
		undueFeed("Feed of 100,000 bytes", 0, strings.Repeat("\n", 100000)),
		{"Feed of nil", func(m api.Machine) ([]api.Out, api.Errno) { return m.Feed(0, nil) }},
		undueEnd("End of port 1", 1),
		undueEnd("End of port Ended", api.Ended),
		undueEnd("End of port More", api.More),
		{"More", api.Machine.More},
	}
}

// undueFeed is a Feed of such bytes.
func undueFeed(name string, port int, text string) Call {
	return Call{name, func(m api.Machine) ([]api.Out, api.Errno) { return m.Feed(port, []byte(text)) }}
}

// undueEnd is an End of such a port.
func undueEnd(name string, port int) Call {
	return Call{name, func(m api.Machine) ([]api.Out, api.Errno) { return m.End(port) }}
}

// UndueCallsOf are calls that are refused by any machine that reads this input, and by
// one that has ended: by another port, one that there is or not, of a chunk that is none,
// and More.
func UndueCallsOf(port int) []Call {
	calls := []Call{{"More", api.Machine.More}}
	for _, other := range []int{0, 1, 2, 3, 4, 5, -1, -2, -3, 256, 1 << 32, 1<<32 + port, -1 << 63, 1<<63 - 1} {
		if other != port {
			calls = append(calls, FeedOf(other, []byte("y\n")), undueEnd("End", other))
		}
	}
	for _, b := range [][]byte{nil, {}, make([]byte, 33), make([]byte, 64), make([]byte, 100000)} {
		calls = append(calls, FeedOf(port, b))
	}
	return calls
}

// FeedOf is a Feed of such bytes, by this port.
func FeedOf(port int, b []byte) Call {
	return Call{"Feed", func(m api.Machine) ([]api.Out, api.Errno) { return m.Feed(port, b) }}
}

// HoldUndue holds a call of a machine that has neither ended nor failed, and of which it
// is not due, against its refusal, by which nothing changes.
func HoldUndue(t Test, m api.Machine, call Call) {
	t.Helper()
	need, held := m.Need(), m.Held()
	if outs, e := call.Make(m); len(outs) != 0 || e != api.ErrArg || m.Need() != need || m.Held() != held {
		t.Fatalf("%s, while Need is %d, and Held %d: %+v, error %d, Need %d, Held %d; want ErrArg", call.Name, need, held, outs, e, m.Need(), m.Held())
	}
}

// HoldDone holds a call of a machine that has ended, or failed, against its refusal.
func HoldDone(t Test, m api.Machine, call Call) {
	t.Helper()
	if outs, e := call.Make(m); len(outs) != 0 || e != api.ErrDone || m.Need() != api.Ended || m.Held() != 0 {
		t.Fatalf("%s, behind the end: %+v, error %d, Need %d, Held %d; want ErrDone", call.Name, outs, e, m.Need(), m.Held())
	}
}

// HoldChunkLimits hands machines that read a chunk of one byte more than there may be,
// and then one of as many, by each of their inputs.
func (s Subject) HoldChunkLimits(t Test, params ...api.Params) {
	t.Helper()
	full := Word(31) + "\n"
	for _, p := range params {
		for d := s.Drive(t, p); d.Seen.Need >= 0; {
			outs, e := d.feed(d.Seen.Need, []byte(full+"\n"))
			d.refused(outs, e, api.ErrArg)
			if d.Feed(full); d.Seen.Need >= 0 {
				d.End()
			}
		}
	}
}

// Refusal is parameters of which New makes no machine, and its error.
type Refusal struct {
	P   api.Params
	Err api.Errno
}

// HoldNew makes sure that New makes no machine of such parameters, of those that no
// machine may have, and of those of other kinds, and that it leaves what it is handed.
func (s Subject) HoldNew(t Test, kind int, own ...Refusal) {
	t.Helper()
	for _, r := range append(own, MayNotBe()...) {
		s.refuses(t, r)
	}
	for _, p := range OneOfEachKind() {
		if p.Kind != kind {
			s.refuses(t, Refusal{p, api.ErrKind})
		}
	}
}

// HoldNewByPorts makes sure that New makes machines of a kind that has no A and no B, and
// whose N is how many ports there are, with N from 1 to MaxPorts alone.
func (s Subject) HoldNewByPorts(t Test, kind int) {
	t.Helper()
	var own []Refusal
	refuse := func(n int, a, b []byte) {
		own = append(own, Refusal{api.Params{Kind: kind, N: n, A: a, B: b}, api.ErrParam})
	}
	for _, n := range []int{0, -1, -2, -4, 5, 6, 16, 1000000000, 1 << 32, 1<<32 + 1, 1<<63 - 1, -1 << 63} {
		refuse(n, nil, nil)
		refuse(n, []byte("a"), []byte("b"))
	}
	for n := 1; n <= api.MaxPorts; n++ {
		for _, none := range [][]byte{nil, {}} {
			s.Drive(t, api.Params{Kind: kind, N: n, A: none, B: none})
		}
		for _, text := range []string{"a", "\n", "\x00", ",", strings.Repeat("b", 5000)} {
			refuse(n, []byte(text), nil)
			refuse(n, nil, []byte(text))
			refuse(n, []byte(text), []byte(text))
		}
	}
	s.HoldNew(t, kind, own...)
}

// refuses makes sure that New makes no machine of such parameters.
func (s Subject) refuses(t Test, r Refusal) {
	t.Helper()
	a, b := string(r.P.A), string(r.P.B)
	if m, e := s.New(r.P); m != nil || e != r.Err {
		t.Fatalf("New(%+v): %v, error %d; want none, %d", r.P, m, e, r.Err)
	}
	if string(r.P.A) != a || string(r.P.B) != b {
		t.Fatalf("A %q, B %q behind New; %q, %q ahead of it", r.P.A, r.P.B, a, b)
	}
}

// MayNotBe are parameters that may not be, of no kind or of some: that is told ahead of
// their being of another kind.
func MayNotBe() []Refusal {
	return []Refusal{
		{api.Params{}, api.ErrKind},
		{api.Params{Kind: -1}, api.ErrKind},
		{api.Params{Kind: 17, N: -1}, api.ErrKind},
		{api.Params{Kind: 1 << 40}, api.ErrKind},
		{api.Params{Kind: -1 << 63}, api.ErrKind},
		{api.Params{Kind: api.KindHead, N: -1}, api.ErrParam},
		{api.Params{Kind: api.KindTail, N: -1}, api.ErrParam},
		{api.Params{Kind: api.KindMatch}, api.ErrParam},
		{api.Params{Kind: api.KindTail, N: 32}, api.ErrState},
		{api.Params{Kind: api.KindJoin, N: 15, A: []byte(",")}, api.ErrState},
	}
}

// OneOfEachKind are parameters that may be.
func OneOfEachKind() []api.Params {
	return []api.Params{
		{Kind: api.KindSource},
		{Kind: api.KindSink},
		{Kind: api.KindHead, N: 1},
		{Kind: api.KindTail, N: 1},
		{Kind: api.KindMatch, A: []byte("a")},
		{Kind: api.KindTurn, A: []byte("a")},
		{Kind: api.KindFields, N: 1, A: []byte(",")},
		{Kind: api.KindUniq},
		{Kind: api.KindCount},
		{Kind: api.KindNumber, N: 1},
		{Kind: api.KindSort},
		{Kind: api.KindChain, N: 1},
		{Kind: api.KindPaste, N: 1, A: []byte(",")},
		{Kind: api.KindJoin, N: 1, A: []byte(",")},
		{Kind: api.KindTee, N: 1},
		{Kind: api.KindSplit, N: 1},
	}
}
