package files

import (
	"fmt"
	"math"
	"slices"
	"testing"

	"penstock/api"
)

// past is all calls that a disk was asked ahead of now, of which those that
// follow look at each anew: nothing else is kept.
type past struct {
	script []api.FileFail
	done   []call
	came   []answer
}

// did says whether a call of that kind, of that file, was answered without an
// error.
func (p past) did(kind, no int) bool {
	for i, c := range p.done {
		if c.kind == create {
			c.no = p.came[i].no
		}
		if c.kind == kind && c.no == no && p.came[i].err == api.OK {
			return true
		}
	}
	return false
}

// created says how many files were created.
func (p past) created() int {
	n := 0
	for p.did(create, n+1) {
		n++
	}
	return n
}

// there says whether a file is there.
func (p past) there(no int) bool { return p.did(create, no) && !p.did(remove, no) }

// text is a file's bytes.
func (p past) text(no int) string {
	all := ""
	for i, c := range p.done {
		if c.kind == write && c.no == no && p.came[i].err == api.OK {
			all += c.bytes
		}
	}
	return all
}

// counts says whether no other cause than the script refuses a call.
func (p past) counts(c call) api.Errno {
	bad := false
	switch c.kind {
	case create:
		if p.created() >= 64 {
			return api.ErrMany
		}
		return api.OK
	case write:
		bad = c.bytes == "" || len(c.bytes) > 1024
	case read:
		bad = c.at < 0 || c.at > len(p.text(c.no)) || c.most < 1
	}
	if bad || !p.there(c.no) {
		return api.ErrArg
	}
	return api.OK
}

// tells is what the disk tells of itself.
func (p past) tells() told {
	var now told
	for i, came := range p.came {
		before := past{p.script, p.done[:i], p.came[:i]}
		if before.counts(p.done[i]) != api.OK {
			continue
		}
		if came.err == api.ErrRaw {
			now.raw, _ = p.failing(now.calls)
		}
		now.calls++
	}
	for no := 1; no <= p.created(); no++ {
		if p.there(no) {
			now.live = append(now.live, no)
		}
	}
	return now
}

// failing says whether the k-th call that counts fails, and by which Id.
func (p past) failing(k int) (int, bool) {
	at := slices.IndexFunc(p.script, func(f api.FileFail) bool { return f.Call == k })
	if at < 0 {
		return 0, false
	}
	return p.script[at].Id, true
}

// comesTo reckons what a call is answered.
func (p past) comesTo(c call) answer {
	if e := p.counts(c); e != api.OK {
		return answer{err: e}
	}
	if _, failing := p.failing(p.tells().calls); failing {
		return answer{err: api.ErrRaw}
	}
	switch c.kind {
	case create:
		return answer{no: p.created() + 1}
	case read:
		text := p.text(c.no)[c.at:]
		return answer{bytes: text[:min(len(text), c.most)]}
	}
	return answer{}
}

// holdCalls makes calls one behind the other, and holds what each comes to, and
// what the disk tells behind it, against what is reckoned of those ahead of it.
func holdCalls(t *testing.T, script []api.FileFail, calls []call) {
	t.Helper()
	d, p := New(script...), past{script: script}
	for i, c := range calls {
		want := p.comesTo(c)
		what := fmt.Sprintf("call %d, %s", i, c)
		if got := ask(t, d, c); got != want {
			t.Fatalf("script %v, %s: %v; want %v", script, what, got, want)
		}
		p.done, p.came = append(p.done, c), append(p.came, want)
		wantTold(t, what, d, p.tells())
	}
}

// P17.1 to P17.5, P17.7: all short rows of a few calls, by a few scripts.
func TestShortRowsOfCalls(t *testing.T) {
	choice := []call{
		{kind: create}, {kind: write, no: 1, bytes: "ab"}, {kind: write, no: 2, bytes: "c"},
		{kind: read, no: 1, at: 1, most: 2}, {kind: read, no: 2, most: 1}, {kind: remove, no: 1}, {kind: remove, no: 2},
	}
	scripts := [][]api.FileFail{nil, {fails(2, 9)}, {fails(3, 0), fails(1, 4), fails(3, 6)}}
	for _, script := range scripts {
		for row := range 7 * 7 * 7 * 7 * 7 {
			calls := []call{{kind: create}}
			for ; len(calls) < 6; row /= len(choice) {
				calls = append(calls, choice[row%len(choice)])
			}
			holdCalls(t, script, calls)
		}
	}
}

// callOf makes a call of four bytes, most of which are calls that may be.
func callOf(b [4]byte) call {
	c := call{kind: int(b[0] % 4), no: int(b[1]%6) - 1}
	switch c.kind {
	case write:
		size := int(b[2]) * 5
		c.bytes = long(size + int(b[3]))[size:]
	case read:
		c.at, c.most = int(b[2])-1, int(b[3])-1
		if b[3] == 255 {
			c.most = math.MaxInt
		}
	}
	return c
}

// FuzzCalls (P17.1 to P17.5, P17.7): any calls, by any script.
func FuzzCalls(f *testing.F) {
	f.Add([]byte{2, 9}, []byte("\x00\x00\x00\x00\x01\x02\x00\x02\x01\x02\x00\x01\x02\x02\x01\x09\x03\x02\x00\x00\x00\x00\x00\x00"))
	f.Add([]byte{0, 1, 1, 2, 1, 3}, []byte("\x00\x00\x00\x00\x01\x02\x00\x00\x02\x02\x02\x01\x03\x03\x00\x00\x03\x02\x00\x00\x00\x00\x00\x00"))
	f.Fuzz(func(t *testing.T, raw, rows []byte) {
		var script []api.FileFail
		for i := 0; i+1 < len(raw) && i < 32; i += 2 {
			script = append(script, fails(int(raw[i])-1, int(raw[i+1])-1))
		}
		var calls []call
		for len(rows) >= 4 && len(calls) < 80 {
			calls = append(calls, callOf([4]byte(rows)))
			rows = rows[4:]
		}
		holdCalls(t, script, calls)
	})
}
