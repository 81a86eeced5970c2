package stage

import (
	"slices"
	"strings"
	"testing"

	"penstock/api"
	"penstock/params"
	"penstock/rig"
)

// of makes parameters without A and B.
func of(kind, n int) api.Params { return api.Params{Kind: kind, N: n} }

// by makes parameters with an A.
func by(kind, n int, a string) api.Params { return api.Params{Kind: kind, N: n, A: []byte(a)} }

// readersOfOne are the stages that read one input: a sink, and some of each kind of
// filters.
func readersOfOne() []api.Params {
	return []api.Params{
		of(api.KindSink, 0),
		of(api.KindSink, 15),
		of(api.KindHead, 0),
		of(api.KindHead, 1),
		of(api.KindHead, 3),
		of(api.KindTail, 0),
		of(api.KindTail, 2),
		of(api.KindTail, 31),
		by(api.KindMatch, 0, "b"),
		by(api.KindMatch, 1, "b"),
		{Kind: api.KindTurn, A: []byte("ab\n"), B: []byte("xy")},
		by(api.KindFields, 5, "b"),
		of(api.KindUniq, 0),
		of(api.KindUniq, 1),
		of(api.KindCount, 0),
		of(api.KindNumber, 9),
		of(api.KindSort, 0),
		of(api.KindSort, 1),
		of(api.KindChain, 1),
		by(api.KindPaste, 1, ","),
		of(api.KindTee, 1),
		of(api.KindTee, 4),
		of(api.KindSplit, 1),
		of(api.KindSplit, 3),
	}
}

// readersOfSome are the stages that read several.
func readersOfSome() []api.Params {
	return []api.Params{
		of(api.KindChain, 2),
		by(api.KindPaste, 2, ","),
		by(api.KindJoin, 1, ","),
		by(api.KindJoin, 3, ","),
		of(api.KindChain, 3),
		by(api.KindPaste, 3, "\x00"),
		of(api.KindChain, 4),
		by(api.KindPaste, 4, ":"),
	}
}

// texts are inputs of a stage that reads one: the rig's, and such as are more than a
// sort holds of its lines.
func texts() []string {
	return append(rig.Inputs(),
		"b\na\nb\nb\nabc\nxyz",
		"a\na\nb\nb\nb\na\n",
		strings.Repeat(rig.Word(40)+"\nb\n", 9)+"a",
		rig.Word(64)+"\n"+rig.Word(64)+"\n"+rig.Word(64)+"\na\n"+rig.Word(65)+"\nb\n",
	)
}

// pairs are inputs of a stage that reads two; one that reads more reads them again.
func pairs() [][]string {
	long, most := rig.Word(65), rig.Word(64)
	return [][]string{
		{"", ""}, {"a", ""}, {"", "a\n"}, {"a\nb\n", "x\n"}, {"x", "a\nb\nc"}, {"\n\n", "\n"},
		{"a,1\nb,2\nb,3\nd\n", "b,x\nc\nd,y"}, {"b,1\nb,2\nb,3\n", "b,4\nb,5\nb,6\n"}, {"a\nb\na\n", "a\nb\n"},
		{"k,1\nk,2\nk,3\nk,4\n", "k\n"}, {"a\nc\n", "b\na\n"}, {long, "a\n"}, {"a\n", "a\nb\n" + long + "\n"},
		{most + "\n" + most, "\n" + most + "\n"}, {"a\nb\n" + long, "a\n"},
	}
}

// inputsOf are lists of inputs of a stage.
func inputsOf(p api.Params) [][]string {
	count, _, _ := params.Arity(p)
	var lists [][]string
	if count == 1 {
		for _, text := range texts() {
			lists = append(lists, []string{text})
		}
		return lists
	}
	for _, pair := range pairs() {
		lists = append(lists, slices.Concat(pair, pair)[:count])
	}
	return lists
}

// endings are ways in which the inputs end that tell these texts: in each way alike, and
// one of them in another way than the others.
func endings(texts []string) [][]api.Stream {
	ways := []func(text string) api.Stream{
		whole,
		open,
		func(text string) api.Stream {
			return broken(text, api.Fault{Code: api.ErrPanic, Stage: 5, Id: -7})
		},
		func(text string) api.Stream { return broken(text, api.Fault{Code: api.ErrLong}) },
	}
	var all [][]api.Stream
	for k, way := range ways {
		var alike []api.Stream
		for _, text := range texts {
			alike = append(alike, way(text))
		}
		all = append(all, alike)
		for i := 0; i < len(texts) && k > 0; i++ {
			ins := wholes(texts...)
			ins[i] = way(texts[i])
			all = append(all, ins)
		}
	}
	return all
}

// places are where an input may be cut: nowhere, at its first byte, further on, at its
// last byte, and behind that.
func places(text string) []int {
	all := []int{-1, 0, 1, len(text) / 3, len(text) - 1, len(text), len(text) + 1}
	slices.Sort(all)
	return slices.Compact(all)
}

// sizesOf are ways to cut what inputs tell into chunks.
func sizesOf() [][]int { return [][]int{{1}, {32}, {5, 1, 32, 2}} }

// sameAs holds what comes of a stage against what is to come.
func sameAs(t *testing.T, number int, p api.Params, s api.Script, ins []api.Stream) {
	t.Helper()
	want := reckon(number, p, s, ins...)
	for _, sizes := range sizesOf() {
		if got := run(t, number, p, s, ins, sizes...); got != want {
			t.Fatalf("%+v, inputs %+v, panics %v, stops %v, chunks of %v: %+v; want %+v", p, ins, s.Panics, s.Stops, sizes, got, want)
		}
	}
}

// P19.6, P19.7, without troubles
func TestWhatComesIsTheDenotation(t *testing.T) {
	for _, p := range append(readersOfOne(), readersOfSome()...) {
		for _, texts := range inputsOf(p) {
			for _, ins := range endings(texts) {
				sameAs(t, 3, p, api.Script{}, ins)
			}
		}
	}
}

// P19.6, P19.7, of one that is cut anywhere
func TestWhatComesOfACutInput(t *testing.T) {
	for _, p := range readersOfOne() {
		for _, text := range texts() {
			for _, at := range places(text) {
				s := api.Script{Panics: []api.Trouble{{Stage: 3, At: at, Id: 8}}}
				for _, in := range []api.Stream{whole(text), open(text), broken(text, api.Fault{Code: api.ErrRaw, Id: 1})} {
					sameAs(t, 3, p, s, []api.Stream{in})
				}
				stops := api.Script{Stops: []api.Trouble{{Stage: 3, At: at, Id: 8}}}
				sameAs(t, 3, p, stops, []api.Stream{whole(text)})
			}
		}
	}
}

// P19.6, P19.7, of several of which some are cut
func TestWhatComesOfCutInputs(t *testing.T) {
	for _, p := range readersOfSome() {
		for _, texts := range inputsOf(p) {
			for _, first := range places(texts[0]) {
				for _, last := range places(texts[len(texts)-1]) {
					s := api.Script{Panics: []api.Trouble{
						{Stage: 0, In: 0, At: first, Id: 1},
						{Stage: 0, In: len(texts) - 1, At: last, Id: 2},
						{Stage: 0, In: len(texts), At: 0, Id: 3},
					}}
					sameAs(t, 0, p, s, wholes(texts...))
				}
			}
		}
	}
}

// P19.6: what comes is the denotation behind each chunk, too.
func TestWhatComesOfEachBeginning(t *testing.T) {
	for _, p := range readersOfOne() {
		for _, text := range []string{"b\na\n\nab\nb", "a\na\n" + rig.Word(65) + "\nb"} {
			for size := range len(text) {
				sameAs(t, 1, p, api.Script{Panics: []api.Trouble{{Stage: 1, At: 6}}}, []api.Stream{open(text[:size])})
			}
		}
	}
	for _, p := range readersOfSome() {
		for _, text := range []string{"a,1\na,2\nb\nc", "b\nc\n\nd"} {
			for size := range len(text) {
				other := "a\nb,1\nc\n"
				ins := []api.Stream{open(text[:size]), open(other), whole(other), whole(other)}
				count, _, _ := params.Arity(p)
				sameAs(t, 1, p, api.Script{Panics: []api.Trouble{{Stage: 1, In: 1, At: 6}}}, ins[:count])
			}
		}
	}
}

// P19.3, P19.5: at each step all calls that are not due are refused, and change nothing.
func TestRefusalsChangeNothing(t *testing.T) {
	s := api.Script{
		Sources: []api.Source{{Bytes: []byte(rig.Word(70)), Cuts: []int{4, -40}, Fails: true}},
		Panics:  []api.Trouble{{Stage: 2, In: 0, At: 9, Id: 4}},
	}
	for _, p := range append(append(readersOfOne(), readersOfSome()...), of(api.KindSource, 0), of(api.KindSource, 1)) {
		count, _, _ := params.Arity(p)
		long := []string{"a\nb\nc,1\nc,2\nd\n", "a\nc,3\n\nd\n", "e\n", "f"}
		for _, number := range []int{1, 2} {
			for _, ins := range endings(long[:count]) {
				d := driverOf(t, made(t, number, p, s), p, ins...)
				d.pesters = true
				if got, want := d.run(7, 1), reckon(number, p, s, ins...); got != want {
					t.Fatalf("%+v, inputs %+v: %+v; want %+v", p, ins, got, want)
				}
			}
		}
	}
}

// P19.6, of any bytes, by any chunks and troubles.
func FuzzStage(f *testing.F) {
	f.Add(uint8(3), []byte("a\nb"), []byte("c\n"), []byte{1, 2}, int16(-1), int16(2), uint8(0))
	f.Add(uint8(26), []byte("a,1\nb,2"), []byte("b,3\n"), []byte{31}, int16(6), int16(-1), uint8(5))
	f.Fuzz(func(t *testing.T, kind uint8, one, other, cuts []byte, first, second int16, end uint8) {
		all := append(readersOfOne(), readersOfSome()...)
		p := all[int(kind)%len(all)]
		count, _, _ := params.Arity(p)
		texts := []string{string(one), string(other), string(other), string(one)}[:count]
		ways := endings(texts)
		ins := ways[int(end)%len(ways)]
		s := api.Script{
			Panics: []api.Trouble{{Stage: 1, At: int(first), Id: 1}, {Stage: 1, In: 1, At: int(second), Id: 2}},
			Stops:  []api.Trouble{{Stage: 1, At: int(second), Id: 3}},
		}
		d := driverOf(t, made(t, 1, p, s), p, ins...)
		d.pesters = true
		if got, want := d.run(rig.Sizes(cuts)...), reckon(1, p, s, ins...); got != want {
			t.Fatalf("%+v, inputs %+v, at %d, %d: %+v; want %+v", p, ins, first, second, got, want)
		}
	})
}
