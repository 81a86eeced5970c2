package stage

import (
	"penstock/api"
	"penstock/chain"
	"penstock/count"
	"penstock/fields"
	"penstock/head"
	"penstock/join"
	"penstock/match"
	"penstock/number"
	"penstock/paste"
	"penstock/split"
	"penstock/tail"
	"penstock/tee"
	"penstock/turn"
	"penstock/uniq"
)

// newFilter makes the machine of a kind that is neither source, sink nor sort.
func newFilter(p api.Params) (api.Machine, api.Errno) {
	switch p.Kind {
	case api.KindHead:
		return head.New(p)
	case api.KindTail:
		return tail.New(p)
	case api.KindMatch:
		return match.New(p)
	case api.KindTurn:
		return turn.New(p)
	case api.KindFields:
		return fields.New(p)
	case api.KindUniq:
		return uniq.New(p)
	case api.KindCount:
		return count.New(p)
	case api.KindNumber:
		return number.New(p)
	case api.KindChain:
		return chain.New(p)
	case api.KindPaste:
		return paste.New(p)
	case api.KindJoin:
		return join.New(p)
	case api.KindTee:
		return tee.New(p)
	}
	return split.New(p)
}
