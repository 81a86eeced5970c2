package stage

import (
	"math"

	"penstock/api"
)

// trouble is what befalls a stage at a byte: the fault by which it fails then. It is what
// the stage panics with, so that its own panics can be told from a machine's.
type trouble struct {
	at    int
	fault api.Fault
}

// troubleOf answers the trouble of a stage's input, or of a source's output. Where there
// is none it stands at a byte that never comes.
func troubleOf(number, kind, port int, s api.Script) trouble {
	first := trouble{at: math.MaxInt}.orLess(api.ErrPanic, number, port, s.Panics...)
	if kind == api.KindSink {
		first = first.orLess(api.ErrRaw, number, port, s.Stops...)
	}
	return first
}

// orLess answers the first one of those of this port that stands ahead of t, and of the
// others, or t, if there is none.
func (t trouble) orLess(code api.Errno, number, port int, others ...api.Trouble) trouble {
	for _, o := range others {
		if o.Stage == number && o.In == port && o.At >= 0 && o.At < t.at {
			t = trouble{o.At, api.Fault{Code: code, Stage: number, Id: o.Id}}
		}
	}
	return t
}

// port is what has come of a stage's input, or goes to a source's output, up to its
// trouble.
type port struct {
	trouble trouble
	came    int
	broken  bool
}

// cut answers those of the bytes that come next that stand ahead of the trouble. By one
// that does not the port is broken: nothing comes any more.
func (p *port) cut(b []byte) []byte {
	left := p.trouble.at - p.came
	if len(b) > left {
		p.broken = true
		b = b[:left]
	}
	p.came += len(b)
	return b
}
