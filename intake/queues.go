package intake

import (
	"penstock/api"
	"penstock/line"
)

// Queue is an input's lines that wait till they are taken, and the splitter that cuts
// them.
type Queue struct {
	line.Splitter
	waiting []string
	over    bool
}

// Put takes bytes of the input: what they end are lines that wait.
func (q *Queue) Put(b []byte) api.Errno {
	lines, e := q.Cut(b)
	q.waiting = append(q.waiting, lines...)
	return e
}

// Close takes the input's end: what is begun is a line, if it has a byte.
func (q *Queue) Close() {
	q.over = true
	if text, ok := q.Rest(); ok {
		q.waiting = append(q.waiting, text)
	}
}

// First answers the first line that waits, if there is one.
func (q *Queue) First() (string, bool) {
	if len(q.waiting) == 0 {
		return "", false
	}
	return q.waiting[0], true
}

// Take answers that line, which waits no more. Its cell is emptied: the slice moves on,
// but what is behind it is still in memory.
func (q *Queue) Take() (string, bool) {
	first, ok := q.First()
	if ok {
		q.waiting[0] = ""
		q.waiting = q.waiting[1:]
	}
	return first, ok
}

// Over tells whether no line waits, nor will any.
func (q *Queue) Over() bool { return q.over && len(q.waiting) == 0 }

// Held tells how many bytes the line that is begun and those that wait have.
func (q *Queue) Held() int {
	held := q.Begun()
	for _, text := range q.waiting {
		held += len(text)
	}
	return held
}

// Queues is what machines have in common that take lines of several inputs, or that may
// fail by a line that is not too long: a reader whose chunks go to the queue of their
// input, which Of tells. Next is what comes of the lines that wait: it reads the input of
// which it wants one that has not come, or tells pieces, or stops; by an error it has
// stopped. What is held then will never be told: GiveUp gives it up.
type Queues struct {
	Reader
	Of     func(port int) *Queue
	Next   func() ([]api.Out, api.Errno)
	GiveUp func()
}

// Feed takes a chunk. A line is read only while it is wanted, and a chunk has fewer
// bytes than a line may have: so what is too long is the line that is wanted, and no
// other one has come ahead of it.
func (r *Queues) Feed(port int, b []byte) ([]api.Out, api.Errno) {
	if e := r.mayFeed(port, b); e != api.OK {
		return nil, e
	}
	if e := r.Of(port).Put(b); e != api.OK {
		r.Stop()
		return nil, e
	}
	return r.Next()
}

// End takes an input's end.
func (r *Queues) End(port int) ([]api.Out, api.Errno) {
	if e := r.mayEnd(port); e != api.OK {
		return nil, e
	}
	r.Of(port).Close()
	return r.Next()
}

// Stop makes it ask for nothing any more, and gives up what is held.
func (r *Queues) Stop() {
	r.Reader.Stop()
	r.GiveUp()
}
