package stage

import (
	"fmt"
	"slices"
	"strings"

	"penstock/api"
)

// ending is how something ends: by the kind of a move; MoveRead is by waiting for what an
// input has not told yet.
type ending struct {
	kind  int
	port  int
	fault api.Fault
}

// ended is the end by which nothing is wrong.
var ended = ending{kind: api.MoveEnd}

// failing is the end by a fault.
func failing(code api.Errno, stage, id int) ending {
	return ending{kind: api.MoveFail, fault: api.Fault{Code: code, Stage: stage, Id: id}}
}

// come is what comes of a stage: what it writes to each output, how that ends, and what
// it took, if it is a sink.
type come struct {
	outs [api.MaxPorts]string
	end  ending
	sunk sunken
}

// sunken is a Stream that can be compared.
type sunken struct {
	text  string
	ended bool
	fault api.Fault
}

// to is what comes of a stage that writes to output 0 alone.
func to(out string, end ending) come {
	return come{outs: [api.MaxPorts]string{out}, end: end}
}

// toEach is what comes of a stage that writes to several.
func toEach(end ending, outs ...string) come {
	c := come{end: end}
	copy(c.outs[:], outs)
	return c
}

// toldBy is what an input tells, with how it ends.
type toldBy struct {
	text string
	end  ending
}

// isCut tells whether a trouble of an input cuts it, and where, and by which fault.
func isCut(number, kind, in, size int, s api.Script) (int, ending, bool) {
	type found struct {
		at, id int
		code   api.Errno
	}
	var all []found
	for _, t := range s.Panics {
		if t.Stage == number && t.In == in && t.At >= 0 {
			all = append(all, found{t.At, t.Id, api.ErrPanic})
		}
	}
	for _, t := range s.Stops {
		if kind == api.KindSink && t.Stage == number && t.In == in && t.At >= 0 {
			all = append(all, found{t.At, t.Id, api.ErrRaw})
		}
	}
	slices.SortStableFunc(all, func(a, b found) int {
		switch {
		case a.at < b.at:
			return -1
		case a.at > b.at:
			return 1
		}
		return 0
	})
	if len(all) == 0 || all[0].at >= size {
		return 0, ending{}, false
	}
	return all[0].at, failing(all[0].code, number, all[0].id), true
}

// cutOff is what inputs tell, each cut at its trouble.
func cutOff(number int, p api.Params, s api.Script, ins []api.Stream) []toldBy {
	var all []toldBy
	for i, in := range ins {
		told := toldBy{string(in.Bytes), ending{kind: api.MoveRead, port: i}}
		if in.Ended {
			told.end = ended
		}
		if in.Err.Code != api.OK {
			told.end = ending{kind: api.MoveFail, fault: in.Err}
		}
		if at, end, is := isCut(number, p.Kind, i, len(in.Bytes), s); is {
			told = toldBy{told.text[:at], end}
		}
		all = append(all, told)
	}
	return all
}

// linesOf are an input's lines, and how they end.
func linesOf(number int, in toldBy) ([]string, ending) {
	all := strings.Split(in.text, "\n")
	for i, text := range all {
		if len(text) > 64 {
			return all[:i], failing(api.ErrLong, number, 0)
		}
	}
	last := len(all) - 1
	if in.end != ended || all[last] == "" {
		all = all[:last]
	}
	return all, in.end
}

// joined are lines, each with its end.
func joined(lines ...string) string {
	text := ""
	for _, l := range lines {
		text += l + "\n"
	}
	return text
}

// reckon is what comes of a stage whose inputs tell that.
func reckon(number int, p api.Params, s api.Script, ins ...api.Stream) come {
	if p.Kind == api.KindSource {
		return reckonSource(number, p, s)
	}
	cut := cutOff(number, p, s, ins)
	switch p.Kind {
	case api.KindSink:
		end := cut[0].end
		return come{end: end, sunk: sunken{cut[0].text, end == ended, end.fault}}
	case api.KindTurn:
		return to(turned(string(p.A), string(p.B), cut[0].text), cut[0].end)
	case api.KindCount:
		return to(behindAll(cut[0].end, func() string {
			return fmt.Sprintf("%d %d\n", strings.Count(cut[0].text, "\n"), len(cut[0].text))
		}), cut[0].end)
	case api.KindChain:
		return reckonChain(cut)
	case api.KindPaste:
		return reckonPaste(number, string(p.A), cut)
	case api.KindJoin:
		return reckonJoin(number, p.N, string(p.A), cut)
	case api.KindTee:
		return toEach(cut[0].end, slices.Repeat([]string{cut[0].text}, p.N)...)
	}
	lines, end := linesOf(number, cut[0])
	return reckonLines(p, lines, end)
}

// behindAll is what is told when an input has ended, and nothing, if it has not.
func behindAll(end ending, tell func() string) string {
	if end != ended {
		return ""
	}
	return tell()
}

// reckonSource is what comes of a source.
func reckonSource(number int, p api.Params, s api.Script) come {
	var own api.Source
	if p.N < len(s.Sources) {
		own = s.Sources[p.N]
	}
	text, end := string(own.Bytes), ended
	if own.Fails {
		end = failing(api.ErrRaw, number, own.Id)
	}
	if at, fails, is := isCut(number, p.Kind, 0, len(text), s); is {
		text, end = text[:at], fails
	}
	return to(text, end)
}

// reckonLines is what comes of a stage that reads the lines of one input.
func reckonLines(p api.Params, lines []string, end ending) come {
	var told []string
	outs := make([]string, api.MaxPorts)
	for i, text := range lines {
		switch p.Kind {
		case api.KindMatch:
			if strings.Contains(text, string(p.A)) == (p.N == 0) {
				told = append(told, text)
			}
		case api.KindFields:
			told = append(told, chosen(p.N, string(p.A), text))
		case api.KindNumber:
			told = append(told, fmt.Sprintf("%d %s", p.N+i, text))
		case api.KindSplit:
			outs[i%p.N] += text + "\n"
		}
	}
	switch p.Kind {
	case api.KindHead:
		if p.N <= len(lines) {
			lines, end = lines[:p.N], ended
		}
		told = lines
	case api.KindTail:
		return to(behindAll(end, func() string { return joined(lines[max(0, len(lines)-p.N):]...) }), end)
	case api.KindUniq:
		told = groups(p.N, lines, end)
	case api.KindSort:
		slices.Sort(lines)
		if p.N == 1 {
			slices.Reverse(lines)
		}
		return to(behindAll(end, func() string { return joined(lines...) }), end)
	case api.KindSplit:
		return toEach(end, outs...)
	}
	return to(joined(told...), end)
}

// turned is bytes, those of from turned to those of to.
func turned(from, to, text string) string {
	out := ""
	for _, c := range []byte(text) {
		at := strings.IndexByte(from, c)
		if at < 0 {
			out += string([]byte{c})
		} else if at < len(to) {
			out += to[at : at+1]
		}
	}
	return out
}

// chosen are the fields of a line that n tells.
func chosen(n int, parting, text string) string {
	all := strings.Split(text, parting)
	if len(all) == 1 {
		return text
	}
	var some []string
	for i, field := range all {
		if i < 16 && n>>i&1 == 1 {
			some = append(some, field)
		}
	}
	return strings.Join(some, parting)
}

// groups is what a uniq tells of lines.
func groups(n int, lines []string, end ending) []string {
	var told []string
	for at := 0; at < len(lines); {
		next := at
		for next < len(lines) && lines[next] == lines[at] {
			next++
		}
		switch {
		case n == 0:
			told = append(told, lines[at])
		case next < len(lines) || end == ended:
			told = append(told, fmt.Sprintf("%d %s", next-at, lines[at]))
		}
		at = next
	}
	return told
}

// reckonChain is what comes of inputs one behind the other.
func reckonChain(ins []toldBy) come {
	out := ""
	for _, in := range ins {
		out += in.text
		if in.end != ended {
			return to(out, in.end)
		}
	}
	return to(out, ended)
}

// reckonPaste is what comes of inputs side by side.
func reckonPaste(number int, parting string, ins []toldBy) come {
	out := ""
	for row := 0; ; row++ {
		var fields []string
		given := false
		for _, in := range ins {
			lines, end := linesOf(number, in)
			switch {
			case row < len(lines):
				fields, given = append(fields, lines[row]), true
			case end == ended:
				fields = append(fields, "")
			default:
				return to(out, end)
			}
		}
		if !given {
			return to(out, ended)
		}
		out += joined(strings.Join(fields, parting))
	}
}

// reckonJoin is what comes of the pairs of two inputs.
func reckonJoin(number, most int, parting string, ins []toldBy) come {
	out := ""
	var groups [2][]string
	var lines [2][]string
	var ends [2]ending
	for i, in := range ins {
		lines[i], ends[i] = linesOf(number, in)
	}
	key := func(text string) string { k, _, _ := strings.Cut(text, parting); return k }
	rest := func(text string) string { _, r, _ := strings.Cut(text, parting); return r }
	for {
		for i := range groups {
			if len(groups[i]) > 0 {
				continue
			}
			group, end := firstGroup(number, most, lines[i], ends[i], key)
			if group == nil {
				return to(out, end)
			}
			groups[i], lines[i] = group, lines[i][len(group):]
		}
		a, b := key(groups[0][0]), key(groups[1][0])
		if a == b {
			for _, one := range groups[0] {
				for _, other := range groups[1] {
					out += joined(strings.Join([]string{a, rest(one), rest(other)}, parting))
				}
			}
		}
		if a <= b {
			groups[0] = nil
		}
		if b <= a {
			groups[1] = nil
		}
	}
}

// firstGroup is the first group of lines, or, if there is no whole one, what that comes
// to.
func firstGroup(number, most int, lines []string, end ending, key func(string) string) ([]string, ending) {
	for i, text := range lines {
		switch {
		case key(text) < key(lines[0]):
			return nil, failing(api.ErrOrder, number, 0)
		case key(text) > key(lines[0]):
			return lines[:i], ended
		case i == most:
			return nil, failing(api.ErrGroup, number, 0)
		}
	}
	if end == ended && len(lines) > 0 {
		return lines, ended
	}
	return nil, end
}
