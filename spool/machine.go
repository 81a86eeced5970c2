package spool

import (
	"slices"
	"strings"

	"penstock/api"
	"penstock/files"
	"penstock/intake"
)

// order is how lines are to stand, as N says.
type order int

const (
	rising order = iota
	falling
)

// compare holds two lines against one another: below 0, if a stands ahead of b.
func (o order) compare(a, b string) int {
	if o == falling {
		return strings.Compare(b, a)
	}
	return strings.Compare(a, b)
}

// machine keeps the run that is begun, and has those ahead of it on files. When its input
// has ended it tells the lines: of the run, if that is the only one, or else of the runs
// on files, of which it keeps the next lines alone.
type machine struct {
	intake.Queues
	intake.Queue
	compare func(a, b string) int
	disk    *files.Disk
	lines   []string
	runs    []*run
	raw     int
}

// newMachine makes a machine by which lines stand in that order.
func newMachine(o order, d *files.Disk) *machine {
	m := &machine{compare: o.compare, disk: d}
	m.Of, m.Next, m.GiveUp = m.queue, m.takeLines, m.giveUp
	return m
}

// queue answers the only input's queue.
func (m *machine) queue(int) *intake.Queue { return &m.Queue }

// Held tells how many bytes the line that is begun has, the run's lines, and the next ones
// of the runs that are merged.
func (m *machine) Held() int {
	held := m.Queue.Held() + sizeOf(m.lines...)
	for _, r := range m.runs {
		held += len(r.next)
	}
	return held
}

// sizeOf tells how many bytes lines have.
func sizeOf(lines ...string) int {
	size := 0
	for _, text := range lines {
		size += len(text)
	}
	return size
}

// takeLines puts all lines that wait to runs. Behind the last line of all it begins to
// tell them.
func (m *machine) takeLines() ([]api.Out, api.Errno) {
	for text, ok := m.Take(); ok; text, ok = m.Take() {
		if e := m.add(text); e != api.OK {
			return nil, m.fail(e)
		}
	}
	if !m.Over() {
		return nil, api.OK
	}
	if len(m.runs) == 0 {
		m.beginKept()
		return nil, api.OK
	}
	if e := m.beginMerge(); e != api.OK {
		return nil, m.fail(e)
	}
	return nil, api.OK
}

// add puts a line to the run that is begun, or, if that would weigh too much by it, to a
// new one. Each line weighs one more than its bytes.
func (m *machine) add(text string) api.Errno {
	weight := sizeOf(m.lines...) + len(m.lines)
	if weight+len(text)+1 > api.RunBytes {
		if e := m.spill(); e != api.OK {
			return e
		}
	}
	m.lines = append(m.lines, text)
	return api.OK
}

// sort brings the run's lines to their order.
func (m *machine) sort() { slices.SortStableFunc(m.lines, m.compare) }

// beginKept makes the lines of the only run the pieces, if it has some.
func (m *machine) beginKept() {
	if len(m.lines) == 0 {
		m.Stop()
		return
	}
	m.sort()
	m.Piece = m.tellKept
	m.TellPieces()
}

// tellKept tells the first line that is kept, and keeps it no more. Its cell is emptied:
// the slice moves on, but what is behind it is still in memory.
func (m *machine) tellKept() ([]api.Out, api.Errno) {
	outs := intake.Tell(0, m.lines[0])
	m.lines[0] = ""
	m.lines = m.lines[1:]
	if len(m.lines) == 0 {
		m.Stop()
	}
	return outs, api.OK
}

// beginMerge makes the lines of all runs the pieces. The last run has a line: the one that
// was too much for the run ahead of it.
func (m *machine) beginMerge() api.Errno {
	if e := m.spill(); e != api.OK {
		return e
	}
	for len(m.runs) > api.MaxFan {
		if e := m.pass(); e != api.OK {
			return e
		}
	}
	m.Piece = m.tellLeast
	m.TellPieces()
	return m.readFirst(m.runs...)
}

// tellLeast tells the least of the runs' next lines. It is told also if a call fails
// behind it.
func (m *machine) tellLeast() ([]api.Out, api.Errno) {
	r := m.least(m.runs...)
	outs := intake.Tell(0, r.next)
	if e := m.readNext(r); e != api.OK {
		return outs, m.fail(e)
	}
	if m.least(m.runs...) != nil {
		return outs, api.OK
	}
	if e := m.remove(m.runs...); e != api.OK {
		return outs, m.fail(e)
	}
	m.Stop()
	return outs, api.OK
}

// fail stops it by a disk's error, and answers that. The Id is asked for at once: the disk
// tells another one, if Close fails later.
func (m *machine) fail(e api.Errno) api.Errno {
	if e == api.ErrRaw {
		m.raw = m.disk.Raw()
	}
	m.Stop()
	return e
}

// close stops it, and removes all files. It gives up the disk by that, so that there are
// none the next time.
func (m *machine) close() api.Errno {
	disk, first := m.disk, api.OK
	m.disk = nil
	m.Stop()
	for _, no := range disk.Live() {
		if e := disk.Remove(no); first == api.OK {
			first = e
		}
	}
	return first
}

// giveUp makes it hold nothing.
func (m *machine) giveUp() {
	m.Queue = intake.Queue{}
	m.lines, m.runs = nil, nil
}
