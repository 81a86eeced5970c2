package params

import (
	"bytes"
	"math"
	"math/big"
	"slices"
	"testing"

	"penstock/api"
)

// The kinds by the chapter's numbers, so that nothing hangs on the table under test.
const (
	source = 1
	sink   = 2
	head   = 3
	tail   = 4
	match  = 5
	turn   = 6
	fields = 7
	uniq   = 8
	count  = 9
	number = 10
	sorted = 11
	chain  = 12
	paste  = 13
	join   = 14
	tee    = 15
	split  = 16
)

// kindsWithoutA are those of which A may have no byte.
var kindsWithoutA = []int{source, sink, head, tail, uniq, count, number, sorted, chain, tee, split}

// kindsOfOneByte are those of which A is one byte that is not 10.
var kindsOfOneByte = []int{fields, paste, join}

// of makes parameters; a and b without bytes are nil.
func of(kind, n int, a, b string) api.Params {
	p := api.Params{Kind: kind, N: n}
	if a != "" {
		p.A = []byte(a)
	}
	if b != "" {
		p.B = []byte(b)
	}
	return p
}

// usual makes parameters of a kind that may be, with its least N.
func usual(kind int) api.Params {
	switch kind {
	case match, turn:
		return of(kind, 0, "a", "")
	case fields, paste, join:
		return of(kind, 1, ",", "")
	case chain, tee, split:
		return of(kind, 1, "", "")
	}
	return of(kind, 0, "", "")
}

// unlikeBytes makes so many bytes (at most 255) of which no two are alike and none is 10.
func unlikeBytes(n int) string {
	var b []byte
	for c := range 256 {
		if c != 10 && len(b) < n {
			b = append(b, byte(c))
		}
	}
	return string(b)
}

// wantMayBe holds all that is told of parameters against what should be.
func wantMayBe(t *testing.T, p api.Params, ins, outs, bound int) {
	t.Helper()
	if e := Check(p); e != api.OK {
		t.Errorf("Check(%v): %v; want OK", p, e)
	}
	if i, o, e := Arity(p); i != ins || o != outs || e != api.OK {
		t.Errorf("Arity(%v): %d, %d, %v; want %d, %d, OK", p, i, o, e, ins, outs)
	}
	if n, e := Bound(p); n != bound || e != api.OK {
		t.Errorf("Bound(%v): %d, %v; want %d, OK", p, n, e, bound)
	}
}

// wantError asks all that may be asked of parameters that may not be.
func wantError(t *testing.T, p api.Params, want api.Errno) {
	t.Helper()
	if e := Check(p); e != want {
		t.Errorf("Check(%v): %v; want %v", p, e, want)
	}
	if i, o, e := Arity(p); i != 0 || o != 0 || e != want {
		t.Errorf("Arity(%v): %d, %d, %v; want 0, 0, %v", p, i, o, e, want)
	}
	if n, e := Bound(p); n != 0 || e != want {
		t.Errorf("Bound(%v): %d, %v; want 0, %v", p, n, e, want)
	}
}

// P3.1 to P3.3: the chapter's examples.
func TestExamples(t *testing.T) {
	wantMayBe(t, of(tail, 31, "", ""), 1, 1, 2048)
	wantError(t, of(tail, 32, "", ""), api.ErrState)
	wantError(t, of(tail, -1, "", ""), api.ErrParam)
	wantMayBe(t, of(join, 14, ",", ""), 2, 1, 1984)
	wantError(t, of(join, 15, ",", ""), api.ErrState)
	wantMayBe(t, of(paste, 3, ":", ""), 3, 1, 288)
	wantError(t, of(match, 0, "", ""), api.ErrParam)
	wantError(t, of(turn, 0, "aba", ""), api.ErrParam)
	wantError(t, of(uniq, 2, "", ""), api.ErrParam)
	wantError(t, of(head, 1, "a", ""), api.ErrParam)
	wantError(t, of(0, 0, "", ""), api.ErrKind)
	wantError(t, of(17, 0, "", ""), api.ErrKind)
}

// P3.1 to P3.3: each kind's least and greatest N, and one between them if there is one.
func TestWhatMayBe(t *testing.T) {
	for _, c := range []struct {
		kind, n         int
		a, b            string
		ins, outs, hold int
	}{
		{source, 0, "", "", 0, 1, 0},
		{source, 7, "", "", 0, 1, 0},
		{source, 15, "", "", 0, 1, 0},
		{sink, 0, "", "", 1, 0, 0},
		{sink, 8, "", "", 1, 0, 0},
		{sink, 15, "", "", 1, 0, 0},
		{head, 0, "", "", 1, 1, 64},
		{head, 5, "", "", 1, 1, 64},
		{head, 1000000000, "", "", 1, 1, 64},
		{tail, 0, "", "", 1, 1, 64},
		{tail, 1, "", "", 1, 1, 128},
		{tail, 10, "", "", 1, 1, 704},
		{tail, 30, "", "", 1, 1, 1984},
		{tail, 31, "", "", 1, 1, 2048},
		{match, 0, "ab", "", 1, 1, 64},
		{match, 1, "ab", "", 1, 1, 64},
		{turn, 0, "abc", "xy", 1, 1, 0},
		{fields, 1, ",", "", 1, 1, 64},
		{fields, 5, ",", "", 1, 1, 64},
		{fields, 65535, ",", "", 1, 1, 64},
		{uniq, 0, "", "", 1, 1, 128},
		{uniq, 1, "", "", 1, 1, 128},
		{count, 0, "", "", 1, 1, 0},
		{number, 0, "", "", 1, 1, 64},
		{number, 100, "", "", 1, 1, 64},
		{number, 1000000000, "", "", 1, 1, 64},
		{sorted, 0, "", "", 1, 1, 320},
		{sorted, 1, "", "", 1, 1, 320},
		{chain, 1, "", "", 1, 1, 0},
		{chain, 2, "", "", 2, 1, 0},
		{chain, 3, "", "", 3, 1, 0},
		{chain, 4, "", "", 4, 1, 0},
		{paste, 1, ",", "", 1, 1, 96},
		{paste, 2, ",", "", 2, 1, 192},
		{paste, 3, ",", "", 3, 1, 288},
		{paste, 4, ",", "", 4, 1, 384},
		{join, 1, ",", "", 2, 1, 320},
		{join, 2, ",", "", 2, 1, 448},
		{join, 13, ",", "", 2, 1, 1856},
		{join, 14, ",", "", 2, 1, 1984},
		{tee, 1, "", "", 1, 1, 0},
		{tee, 2, "", "", 1, 2, 0},
		{tee, 3, "", "", 1, 3, 0},
		{tee, 4, "", "", 1, 4, 0},
		{split, 1, "", "", 1, 1, 64},
		{split, 2, "", "", 1, 2, 64},
		{split, 3, "", "", 1, 3, 64},
		{split, 4, "", "", 1, 4, 64},
	} {
		wantMayBe(t, of(c.kind, c.n, c.a, c.b), c.ins, c.outs, c.hold)
	}
}

// P3.1: what is below each kind's least N, and above its greatest.
func TestNumbersThatMayNotBe(t *testing.T) {
	for _, c := range []struct{ kind, least, most int }{
		{source, 0, 15}, {sink, 0, 15}, {head, 0, 1000000000}, {tail, 0, math.MaxInt},
		{match, 0, 1}, {turn, 0, 0}, {fields, 1, 65535}, {uniq, 0, 1},
		{count, 0, 0}, {number, 0, 1000000000}, {sorted, 0, 1}, {chain, 1, 4},
		{paste, 1, 4}, {join, 1, math.MaxInt}, {tee, 1, 4}, {split, 1, 4},
	} {
		below := []int{c.least - 1, c.least - 2, -c.most, -1000000000, math.MinInt32, math.MinInt + 1, math.MinInt}
		above := []int{math.MaxInt32 + 1, 1 << 32, 1<<32 + 1, 1 << 62, math.MaxInt - 1, math.MaxInt}
		if c.most == math.MaxInt {
			above = nil
		} else {
			above = append(above, c.most+1, c.most+2, c.most+1<<32)
		}
		for _, n := range slices.Concat(below, above) {
			if n >= c.least && n <= c.most {
				continue
			}
			p := usual(c.kind)
			p.N = n
			wantError(t, p, api.ErrParam)
		}
	}
}

// P3.1
func TestKindsThatAreNone(t *testing.T) {
	for _, kind := range []int{math.MinInt, -16, -2, -1, 0, 17, 18, 32, 257, 1<<32 + 3, math.MaxInt} {
		for _, n := range []int{math.MinInt, -1, 0, 1, 32, math.MaxInt} {
			wantError(t, of(kind, n, "", ""), api.ErrKind)
			wantError(t, of(kind, n, ",", ""), api.ErrKind)
			wantError(t, of(kind, n, "aa\n", "bbbb"), api.ErrKind)
		}
	}
	wantError(t, api.Params{}, api.ErrKind)
}

// P3.1: bytes in A where none may be.
func TestKindsWithoutA(t *testing.T) {
	for _, kind := range kindsWithoutA {
		p := usual(kind)
		p.A, p.B = []byte{}, []byte{}
		if e := Check(p); e != api.OK {
			t.Errorf("Check(%v): %v; want OK", p, e)
		}
		for _, a := range []string{"a", ",", "\n", "\x00", "ab", unlikeBytes(16), unlikeBytes(255)} {
			p.A = []byte(a)
			wantError(t, p, api.ErrParam)
		}
	}
}

// P3.1: every byte but 10, and one byte alone.
func TestKindsOfOneByte(t *testing.T) {
	for _, kind := range kindsOfOneByte {
		p := usual(kind)
		for c := range 256 {
			p.A = []byte{byte(c)}
			if c == 10 {
				wantError(t, p, api.ErrParam)
			} else if e := Check(p); e != api.OK {
				t.Errorf("Check(%v): %v; want OK", p, e)
			}
		}
		for _, a := range [][]byte{nil, {}, []byte("ab"), []byte(",,"), []byte(",\n"), []byte("\n,"), []byte("abc"), make([]byte, 1<<16)} {
			p.A = a
			wantError(t, p, api.ErrParam)
		}
	}
}

// P3.1: from 1 to 16 bytes, alike or not.
func TestTextsOfAMatch(t *testing.T) {
	for n := range 2 {
		for size := 1; size <= 16; size++ {
			wantMayBe(t, of(match, n, unlikeBytes(size), ""), 1, 1, 64)
			wantMayBe(t, of(match, n, string(bytes.Repeat([]byte("a"), size)), ""), 1, 1, 64)
		}
		for _, size := range []int{17, 18, 32, 64, 255} {
			wantError(t, of(match, n, unlikeBytes(size), ""), api.ErrParam)
		}
		wantError(t, api.Params{Kind: match, N: n, A: make([]byte, 1<<16)}, api.ErrParam)
		wantError(t, api.Params{Kind: match, N: n, A: nil}, api.ErrParam)
		wantError(t, api.Params{Kind: match, N: n, A: []byte{}}, api.ErrParam)
	}
}

// P3.1: byte 10 at each place of each length.
func TestNoEndOfALineInAMatch(t *testing.T) {
	for size := 1; size <= 16; size++ {
		for at := range size {
			a := []byte(unlikeBytes(size))
			a[at] = 10
			wantError(t, api.Params{Kind: match, A: a}, api.ErrParam)
			wantError(t, api.Params{Kind: match, N: 1, A: a}, api.ErrParam)
		}
	}
	for c := range 256 {
		if c != 10 {
			wantMayBe(t, api.Params{Kind: match, A: []byte{'a', byte(c)}}, 1, 1, 64)
		}
	}
}

// P3.1: from 1 to 64 bytes, byte 10 among them or not.
func TestBytesOfATurn(t *testing.T) {
	for c := range 256 {
		wantMayBe(t, api.Params{Kind: turn, A: []byte{byte(c)}}, 1, 1, 0)
	}
	for size := 1; size <= 64; size++ {
		wantMayBe(t, of(turn, 0, unlikeBytes(size), ""), 1, 1, 0)
		wantMayBe(t, of(turn, 0, unlikeBytes(size-1)+"\n", ""), 1, 1, 0)
	}
	for _, size := range []int{65, 66, 128, 255} {
		wantError(t, of(turn, 0, unlikeBytes(size), ""), api.ErrParam)
	}
	wantError(t, api.Params{Kind: turn, A: nil}, api.ErrParam)
	wantError(t, api.Params{Kind: turn, A: []byte{}}, api.ErrParam)
	wantError(t, api.Params{Kind: turn, A: make([]byte, 1<<16)}, api.ErrParam)
}

// P3.1: two alike, at every two places of the most that may be, and every byte twice.
func TestNoBytesAlikeInATurn(t *testing.T) {
	for i := range 64 {
		for j := range i {
			a := []byte(unlikeBytes(64))
			a[i] = a[j]
			wantError(t, api.Params{Kind: turn, A: a}, api.ErrParam)
		}
	}
	for c := range 256 {
		wantError(t, api.Params{Kind: turn, A: []byte{byte(c), byte(c)}}, api.ErrParam)
		wantError(t, api.Params{Kind: turn, A: []byte{byte(c), byte(c + 1), byte(c)}}, api.ErrParam)
	}
}

// P3.1: B of a turn is any bytes, at most as many as A.
func TestBOfATurn(t *testing.T) {
	for size := 1; size <= 64; size++ {
		a := unlikeBytes(size)
		for _, more := range []int{0, 1, size / 2, size - 1, size} {
			wantMayBe(t, of(turn, 0, a, unlikeBytes(more)), 1, 1, 0)
			wantMayBe(t, of(turn, 0, a, string(bytes.Repeat([]byte("\n"), more))), 1, 1, 0)
		}
		for _, more := range []int{size + 1, size + 2, 65, 128, 255} {
			wantError(t, of(turn, 0, a, unlikeBytes(more)), api.ErrParam)
		}
	}
	for c := range 256 {
		wantMayBe(t, api.Params{Kind: turn, A: []byte("ab"), B: []byte{byte(c), byte(c)}}, 1, 1, 0)
	}
	wantMayBe(t, api.Params{Kind: turn, A: []byte("ab"), B: []byte{}}, 1, 1, 0)
	wantMayBe(t, of(turn, 0, "ab", "ab"), 1, 1, 0)
	wantError(t, of(turn, 0, "", "a"), api.ErrParam)
	wantError(t, of(turn, 0, "aa", "a"), api.ErrParam)
}

// P3.1: bytes in B where none may be.
func TestNoBButOfATurn(t *testing.T) {
	for kind := source; kind <= split; kind++ {
		p := usual(kind)
		p.B = []byte{}
		if e := Check(p); e != api.OK {
			t.Errorf("Check(%v): %v; want OK", p, e)
		}
		for _, b := range []string{"a", "\x00", "\n", "ab", unlikeBytes(255)} {
			p.B = []byte(b)
			if kind != turn || len(b) > 1 {
				wantError(t, p, api.ErrParam)
			}
		}
	}
}

// P3.1: N by which a stage would hold more than MaxState, or more than an int can say.
func TestWhatHoldsTooMuch(t *testing.T) {
	numbers := []int{32, 33, 100, 1000000000, 1000000001, math.MaxInt32, math.MaxInt - 1, math.MaxInt}
	for shift := 5; shift < 63; shift++ {
		numbers = append(numbers, 1<<shift, 1<<shift+1, 1<<shift+1<<(shift-1))
	}
	for shift := 56; shift < 63; shift++ {
		// Multiplied by 64, or by 128, these come round to little, or to less than nothing.
		numbers = append(numbers, 1<<shift-1, 1<<shift-2, 1<<shift+14, 1<<shift+31)
	}
	for _, n := range numbers {
		wantError(t, of(tail, n, "", ""), api.ErrState)
		wantError(t, of(join, n, ",", ""), api.ErrState)
	}
	for n := 15; n < 64; n++ {
		wantError(t, of(join, n, ",", ""), api.ErrState)
	}
}

// P3.1: where several errors apply, ErrKind is ahead of ErrParam, and that ahead of ErrState.
func TestTheErrorThatIsNamedFirst(t *testing.T) {
	for _, n := range []int{15, 32, 1000000000, math.MaxInt} {
		wantError(t, of(join, n, "", ""), api.ErrParam)
		wantError(t, of(join, n, "\n", ""), api.ErrParam)
		wantError(t, of(join, n, ",,", ""), api.ErrParam)
		wantError(t, of(join, n, ",", "b"), api.ErrParam)
		wantError(t, of(17, n, ",", "b"), api.ErrKind)
	}
	for _, n := range []int{32, 1000000000, math.MaxInt} {
		wantError(t, of(tail, n, "a", ""), api.ErrParam)
		wantError(t, of(tail, n, "", "b"), api.ErrParam)
		wantError(t, of(0, n, "", "b"), api.ErrKind)
	}
}

// P3.4
func TestSame(t *testing.T) {
	full := of(turn, 5, "abc", "xyz")
	for _, c := range []struct {
		p, q api.Params
		want bool
	}{
		{full, of(turn, 5, "abc", "xyz"), true},
		{full, of(match, 5, "abc", "xyz"), false},
		{full, of(-turn, 5, "abc", "xyz"), false},
		{full, of(turn, 6, "abc", "xyz"), false},
		{full, of(turn, -5, "abc", "xyz"), false},
		{full, of(turn, 5+1<<32, "abc", "xyz"), false},
		{full, of(turn+1<<32, 5, "abc", "xyz"), false},
		{full, of(turn, 5, "abd", "xyz"), false},
		{full, of(turn, 5, "bbc", "xyz"), false},
		{full, of(turn, 5, "ab", "xyz"), false},
		{full, of(turn, 5, "abcd", "xyz"), false},
		{full, of(turn, 5, "cba", "xyz"), false},
		{full, of(turn, 5, "", "xyz"), false},
		{full, of(turn, 5, "abc", "xyZ"), false},
		{full, of(turn, 5, "abc", "Xyz"), false},
		{full, of(turn, 5, "abc", "xy"), false},
		{full, of(turn, 5, "abc", "xyz\x00"), false},
		{full, of(turn, 5, "abc", ""), false},
		{full, of(turn, 5, "xyz", "abc"), false},
		{full, of(turn, 5, "abcx", "yz"), false},
		{of(head, 1, "a", ""), of(head, 1, "", "a"), false},
		{of(head, 1, "\x00", ""), of(head, 1, "", ""), false},
		{of(5, 3, "", ""), of(3, 5, "", ""), false},
		{api.Params{}, api.Params{}, true},
		{of(-1, math.MinInt, "\n", "b"), of(-1, math.MinInt, "\n", "b"), true},
		{of(99, math.MaxInt, "aa", "bbb"), of(99, math.MaxInt, "aa", "bbb"), true},
		{of(99, math.MaxInt, "aa", "bbb"), of(99, math.MaxInt-1, "aa", "bbb"), false},
	} {
		if Same(c.p, c.q) != c.want || Same(c.q, c.p) != c.want {
			t.Errorf("Same(%v, %v): %v, and back %v; want %v", c.p, c.q, Same(c.p, c.q), Same(c.q, c.p), c.want)
		}
		if !Same(c.p, c.p) || !Same(c.q, c.q) {
			t.Errorf("%v or %v is not the same as itself", c.p, c.q)
		}
	}
}

// P3.4: no bytes, nil or not, are the same; nor does it matter what else their memory has.
func TestSameOfNoBytes(t *testing.T) {
	none := [][]byte{nil, {}, make([]byte, 0, 8), []byte("abc")[:0]}
	for _, a := range none {
		for _, b := range none {
			p := api.Params{Kind: turn, A: a, B: b}
			for _, c := range none {
				if !Same(p, api.Params{Kind: turn, A: c}) || !Same(p, api.Params{Kind: turn, B: c}) {
					t.Errorf("Same(%#v, .. %#v): false; want true", p, c)
				}
			}
			if Same(p, of(turn, 0, "a", "")) || Same(p, of(turn, 0, "", "a")) {
				t.Errorf("Same(%#v, one with a byte): true; want false", p)
			}
		}
	}
	long := []byte("abcdef")
	if !Same(api.Params{A: long[:3], B: long[3:4]}, of(0, 0, "abc", "d")) {
		t.Errorf("Same of the same bytes in longer memory: false; want true")
	}
}

// P3.4: what is handed in stays, what lies about it in memory, too.
func TestWhatIsHandedInStays(t *testing.T) {
	for kind := -1; kind <= 17; kind++ {
		for _, n := range []int{-1, 0, 1, 4, 32} {
			for size := range 4 {
				a, b := []byte("..cab.."), []byte("..yyx..")
				p := api.Params{Kind: kind, N: n, A: a[2 : 2+size], B: b[2 : 2+size]}
				Check(p)
				Arity(p)
				Bound(p)
				Same(p, p)
				Same(p, api.Params{Kind: kind, N: n, A: b[2 : 2+size], B: a[2 : 2+size]})
				if string(a) != "..cab.." || string(b) != "..yyx.." {
					t.Fatalf("kind %d, N %d: handed in became %q, %q", kind, n, a, b)
				}
			}
		}
	}
}

// reckoned is a row of the chapter's table, with what it says of one N.
type reckoned struct {
	numberMayBe bool
	bytesMayBe  bool
	ins, outs   int
	holds       *big.Int
}

// reckon goes by the words of the chapter's table, with numbers of any size.
func reckon(p api.Params) reckoned {
	within := func(least, most int) bool { return least <= p.N && p.N <= most }
	holds := func(fixed, each int64) *big.Int {
		return new(big.Int).Add(big.NewInt(fixed), new(big.Int).Mul(big.NewInt(each), big.NewInt(int64(p.N))))
	}
	none := len(p.A)+len(p.B) == 0
	oneByte := len(p.A) == 1 && p.A[0] != '\n' && len(p.B) == 0
	text := len(p.A) > 0 && len(p.A) < 17 && bytes.IndexByte(p.A, '\n') < 0 && len(p.B) == 0
	different := slices.Compact(slices.Sorted(slices.Values(p.A)))
	turned := len(p.A) > 0 && len(p.A) < 65 && len(different) == len(p.A) && len(p.B) <= len(p.A)
	switch p.Kind {
	case source:
		return reckoned{within(0, 15), none, 0, 1, holds(0, 0)}
	case sink:
		return reckoned{within(0, 15), none, 1, 0, holds(0, 0)}
	case head, number:
		return reckoned{within(0, 1e9), none, 1, 1, holds(64, 0)}
	case tail:
		return reckoned{p.N >= 0, none, 1, 1, holds(64, 64)}
	case match:
		return reckoned{within(0, 1), text, 1, 1, holds(64, 0)}
	case turn:
		return reckoned{p.N == 0, turned, 1, 1, holds(0, 0)}
	case fields:
		return reckoned{within(1, 65535), oneByte, 1, 1, holds(64, 0)}
	case uniq:
		return reckoned{within(0, 1), none, 1, 1, holds(128, 0)}
	case count:
		return reckoned{p.N == 0, none, 1, 1, holds(0, 0)}
	case sorted:
		return reckoned{within(0, 1), none, 1, 1, holds(320, 0)}
	case chain:
		return reckoned{within(1, 4), none, p.N, 1, holds(0, 0)}
	case paste:
		return reckoned{within(1, 4), oneByte, p.N, 1, holds(0, 96)}
	case join:
		return reckoned{p.N >= 1, oneByte, 2, 1, holds(192, 128)}
	case tee:
		return reckoned{within(1, 4), none, 1, p.N, holds(0, 0)}
	}
	return reckoned{within(1, 4), none, 1, p.N, holds(64, 0)}
}

// wantReckoned holds what is told of any parameters against what is reckoned of them.
func wantReckoned(t *testing.T, p api.Params) {
	t.Helper()
	if p.Kind < 1 || p.Kind > 16 {
		wantError(t, p, api.ErrKind)
		return
	}
	r := reckon(p)
	switch {
	case !r.numberMayBe || !r.bytesMayBe:
		wantError(t, p, api.ErrParam)
	case r.holds.Cmp(big.NewInt(2048)) > 0:
		wantError(t, p, api.ErrState)
	default:
		wantMayBe(t, p, r.ins, r.outs, int(r.holds.Int64()))
	}
}

// numbersAboutEdges are such as stand about an edge of some kind.
func numbersAboutEdges() []int {
	var all []int
	for n := -3; n <= 70; n++ {
		all = append(all, n)
	}
	for _, edge := range []int{255, 65535, 1000000000, math.MaxInt32, math.MaxUint32, 1 << 57, 1 << 58} {
		all = append(all, edge-1, edge, edge+1, -edge)
	}
	return append(all, math.MinInt, math.MinInt+1, math.MaxInt-1, math.MaxInt)
}

// bytesAboutEdges are such as stand about an edge of A or B of some kind.
func bytesAboutEdges() [][]byte {
	all := [][]byte{nil, {}, []byte("\n"), []byte(",,"), []byte("a\nb"), []byte("aba"), make([]byte, 300)}
	for _, size := range []int{1, 2, 3, 15, 16, 17, 63, 64, 65, 66, 255} {
		all = append(all, []byte(unlikeBytes(size)))
	}
	return all
}

// P3.1 to P3.3: kinds, numbers and bytes about all edges, each with each.
func TestAllAgainstTheTable(t *testing.T) {
	for kind := -2; kind <= 19; kind++ {
		for _, n := range numbersAboutEdges() {
			for _, a := range bytesAboutEdges() {
				for _, b := range bytesAboutEdges() {
					wantReckoned(t, api.Params{Kind: kind, N: n, A: a, B: b})
				}
			}
		}
	}
}

// P3.5: ports and bytes of what may be, and that it holds no less with a greater N.
func TestBoundsOfWhatMayBe(t *testing.T) {
	numbers := slices.Sorted(slices.Values(numbersAboutEdges()))
	for kind := source; kind <= split; kind++ {
		held := 0
		found := 0
		p := usual(kind)
		for _, p.N = range numbers {
			ins, outs, e := Arity(p)
			bound, f := Bound(p)
			if e != f || e != Check(p) {
				t.Fatalf("%v: %v by Arity, %v by Bound, %v by Check", p, e, f, Check(p))
			}
			if e != api.OK {
				continue
			}
			found++
			if min(ins, outs) < 0 || max(ins, outs) > api.MaxPorts || ins+outs == 0 {
				t.Errorf("%v: %d inputs, %d outputs", p, ins, outs)
			}
			if bound < held || bound > api.MaxState {
				t.Errorf("%v: holds %d, with a lesser N %d", p, bound, held)
			}
			held = bound
		}
		if found == 0 {
			t.Errorf("kind %d: none may be", kind)
		}
	}
}

// FuzzAnyParameters (P1, P3.1 to P3.4)
func FuzzAnyParameters(f *testing.F) {
	f.Add(tail, 31, []byte(nil), []byte(nil))
	f.Add(join, 1<<57, []byte(","), []byte(""))
	f.Add(turn, 0, []byte("abc\n"), []byte("xx"))
	f.Fuzz(func(t *testing.T, kind, n int, a, b []byte) {
		p := api.Params{Kind: kind, N: n, A: a, B: b}
		wantReckoned(t, p)
		wantReckoned(t, api.Params{Kind: kind&15 + 1, N: n, A: a, B: b})
		if !Same(p, api.Params{Kind: kind, N: n, A: bytes.Clone(a), B: bytes.Clone(b)}) {
			t.Errorf("%v is not the same as its copy", p)
		}
		if Same(p, api.Params{Kind: kind, N: n, A: append(bytes.Clone(a), 0), B: b}) {
			t.Errorf("%v is the same with a byte more", p)
		}
	})
}
