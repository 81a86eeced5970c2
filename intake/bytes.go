package intake

import "penstock/api"

// Bytes is what machines that know no lines have in common: a reader whose chunks are
// handed on as they come. Each is what comes of a chunk's bytes, which it may neither
// change nor keep. By an input's end it stops: a machine that has another input to read
// then makes it read that.
type Bytes struct {
	Reader
	Each func(b ...byte) []api.Out
}

// Feed takes a chunk.
func (r *Bytes) Feed(port int, b []byte) ([]api.Out, api.Errno) {
	if e := r.mayFeed(port, b); e != api.OK {
		return nil, e
	}
	return r.Each(b...), api.OK
}

// End takes the input's end.
func (r *Bytes) End(port int) ([]api.Out, api.Errno) {
	if e := r.mayEnd(port); e != api.OK {
		return nil, e
	}
	r.Stop()
	return nil, api.OK
}

// Held tells that no bytes are held.
func (r *Bytes) Held() int { return 0 }
