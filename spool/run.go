package spool

import (
	"slices"
	"strings"

	"penstock/api"
	"penstock/line"
)

// lineEnd is what ends a line on a file.
const lineEnd = "\n"

// run is lines in order on a file. While it is merged next is the line that was read last,
// till over: then there was none.
type run struct {
	no   int
	at   int
	next string
	over bool
}

// spill brings the lines that are kept to a run on a file.
func (m *machine) spill() api.Errno {
	m.sort()
	no, e := m.disk.Create()
	if e != api.OK {
		return e
	}
	for _, text := range m.lines {
		if e := m.disk.Write(no, line.Join(text)); e != api.OK {
			return e
		}
	}
	m.lines = nil
	m.runs = append(m.runs, &run{no: no})
	return api.OK
}

// pass merges the runs, MaxFan by MaxFan, each row of them to one in its place.
func (m *machine) pass() api.Errno {
	var merged []*run
	for row := range slices.Chunk(m.runs, api.MaxFan) {
		r, e := m.merge(row...)
		if e != api.OK {
			return e
		}
		merged = append(merged, r)
	}
	m.runs = merged
	return api.OK
}

// merge merges runs to one on a new file, and removes them. One that is left over by
// itself stays as it is.
func (m *machine) merge(runs ...*run) (*run, api.Errno) {
	if len(runs) == 1 {
		return runs[0], api.OK
	}
	no, e := m.disk.Create()
	if e != api.OK {
		return nil, e
	}
	if e := m.readFirst(runs...); e != api.OK {
		return nil, e
	}
	for r := m.least(runs...); r != nil; r = m.least(runs...) {
		if e := m.disk.Write(no, line.Join(r.next)); e != api.OK {
			return nil, e
		}
		if e := m.readNext(r); e != api.OK {
			return nil, e
		}
	}
	if e := m.remove(runs...); e != api.OK {
		return nil, e
	}
	return &run{no: no}, api.OK
}

// readFirst reads the first line of each run.
func (m *machine) readFirst(runs ...*run) api.Errno {
	for _, r := range runs {
		if e := m.readNext(r); e != api.OK {
			return e
		}
	}
	return api.OK
}

// readNext reads the run's line behind its next one. What is read reaches up to the end of
// that, whatever stands behind it.
func (m *machine) readNext(r *run) api.Errno {
	b, e := m.disk.Read(r.no, r.at, api.MaxLine+len(lineEnd))
	if e != api.OK {
		return e
	}
	r.next, _, _ = strings.Cut(string(b), lineEnd)
	r.at += len(r.next) + len(lineEnd)
	r.over = len(b) == 0
	return api.OK
}

// least answers the run whose next line stands first, of several that are alike the first
// one; none, if all are over.
func (m *machine) least(runs ...*run) *run {
	var first *run
	for _, r := range runs {
		if !r.over && (first == nil || m.compare(r.next, first.next) < 0) {
			first = r
		}
	}
	return first
}

// remove removes the files of runs.
func (m *machine) remove(runs ...*run) api.Errno {
	for _, r := range runs {
		if e := m.disk.Remove(r.no); e != api.OK {
			return e
		}
	}
	return api.OK
}
