package ring

import (
	"bytes"
	"math"
	"slices"
	"strconv"
	"testing"

	"penstock/api"
)

// ringOf makes a ring that has these chunks, and fails the test if that may not be.
func ringOf(t *testing.T, capacity int, chunks ...string) Ring {
	t.Helper()
	r, e := New(capacity)
	if e != api.OK {
		t.Fatalf("New(%d): %v", capacity, e)
	}
	for _, c := range chunks {
		if r, e = r.Push([]byte(c)); e != api.OK {
			t.Fatalf("Push(%q): %v", c, e)
		}
	}
	return r
}

// chunksOf lists a ring's chunks, and fails the test if they are misnumbered.
func chunksOf(t *testing.T, r Ring) []string {
	t.Helper()
	var out []string
	for i, b := range r.All() {
		if i != len(out) {
			t.Fatalf("All numbers chunk %d as %d", len(out), i)
		}
		out = append(out, string(b))
	}
	return out
}

// wantRing holds all that a ring tells of itself against what it should have.
func wantRing(t *testing.T, what string, r Ring, capacity int, chunks ...string) {
	t.Helper()
	total := 0
	for _, c := range chunks {
		total += len(c)
	}
	if r.Cap() != capacity || r.Len() != len(chunks) || r.Bytes() != total {
		t.Errorf("%s: Cap %d, Len %d, Bytes %d; want %d, %d, %d", what, r.Cap(), r.Len(), r.Bytes(), capacity, len(chunks), total)
	}
	if got := chunksOf(t, r); !slices.Equal(got, chunks) {
		t.Errorf("%s: has %q, want %q", what, got, chunks)
	}
}

// P1.1
func TestNewMakesAnEmptyRingOfEachCapacity(t *testing.T) {
	for capacity := 1; capacity <= api.MaxDuct; capacity++ {
		r, e := New(capacity)
		if e != api.OK {
			t.Errorf("New(%d): %v", capacity, e)
		}
		wantRing(t, "New("+strconv.Itoa(capacity)+")", r, capacity)
	}
}

// P1.1
func TestNewRefusesOtherCapacities(t *testing.T) {
	for _, capacity := range []int{math.MinInt, -8, -1, 0, 9, 10, 256, 257, math.MaxInt} {
		r, e := New(capacity)
		if e != api.ErrCap || r != (Ring{}) {
			t.Errorf("New(%d): %v, %v; want ErrCap and the zero ring", capacity, r, e)
		}
	}
}

// P1.2
func TestPushPutsBehindTheOthers(t *testing.T) {
	r := ringOf(t, 3, "a", "bc")
	r, e := r.Push([]byte("def"))
	if e != api.OK {
		t.Fatalf("Push: %v", e)
	}
	wantRing(t, "after Push", r, 3, "a", "bc", "def")
}

// P1.2
func TestPushTakesChunksOfOneToMaxChunkBytes(t *testing.T) {
	long := bytes.Repeat([]byte("0123456789abcdef"), 3)
	r := ringOf(t, 2, "x")
	for _, size := range []int{1, 2, 31, 32} {
		got, e := r.Push(long[:size])
		if e != api.OK {
			t.Errorf("Push of %d bytes: %v", size, e)
		}
		wantRing(t, "Push of "+strconv.Itoa(size), got, 2, "x", string(long[:size]))
	}
	for _, size := range []int{0, 33, 34, 48} {
		got, e := r.Push(long[:size])
		if e != api.ErrArg || got != r {
			t.Errorf("Push of %d bytes: %v, %v; want ErrArg and the same ring", size, got, e)
		}
	}
	if got, e := r.Push(nil); e != api.ErrArg || got != r {
		t.Errorf("Push(nil): %v, %v; want ErrArg and the same ring", got, e)
	}
	if got, e := r.Push(make([]byte, 1<<20)); e != api.ErrArg || got != r {
		t.Errorf("Push of very many bytes: %v, %v; want ErrArg and the same ring", got, e)
	}
}

// P1.2
func TestPushTakesEveryByte(t *testing.T) {
	for n := range 256 {
		r := ringOf(t, 1, string([]byte{byte(n)}))
		if _, b, e := r.Pop(); e != api.OK || !bytes.Equal(b, []byte{byte(n)}) {
			t.Errorf("byte %d comes back as %v, %v", n, b, e)
		}
	}
}

// P1.2
func TestPushOfAFullRing(t *testing.T) {
	for capacity := 1; capacity <= api.MaxDuct; capacity++ {
		r := ringOf(t, capacity)
		for i := range capacity {
			var e api.Errno
			if r, e = r.Push([]byte{byte(i)}); e != api.OK {
				t.Fatalf("capacity %d, Push %d: %v", capacity, i, e)
			}
		}
		if got, e := r.Push([]byte("x")); e != api.ErrFull || got != r {
			t.Errorf("capacity %d, full: %v, %v; want ErrFull and the same ring", capacity, got, e)
		}
	}
}

// P1, P1.2: of several errors the one named first.
func TestPushNamesErrArgAheadOfErrFull(t *testing.T) {
	r := ringOf(t, 1, "a")
	for _, size := range []int{0, 33} {
		if got, e := r.Push(make([]byte, size)); e != api.ErrArg || got != r {
			t.Errorf("Push of %d bytes to a full ring: %v, %v; want ErrArg and the same ring", size, got, e)
		}
	}
}

// P1.2
func TestPopTakesTheFirst(t *testing.T) {
	r := ringOf(t, 3, "a", "bc", "def")
	r, b, e := r.Pop()
	if string(b) != "a" || e != api.OK {
		t.Errorf("Pop: %q, %v", b, e)
	}
	wantRing(t, "after Pop", r, 3, "bc", "def")
	r, b, e = r.Pop()
	if string(b) != "bc" || e != api.OK {
		t.Errorf("Pop: %q, %v", b, e)
	}
	r, b, e = r.Pop()
	if string(b) != "def" || e != api.OK {
		t.Errorf("Pop: %q, %v", b, e)
	}
	wantRing(t, "after the last Pop", r, 3)
}

// P1.2
func TestPopOfAnEmptyRing(t *testing.T) {
	emptied, _, _ := ringOf(t, 2, "a").Pop()
	for _, r := range []Ring{ringOf(t, 1), ringOf(t, 8), emptied, ringOf(t, 2, "a", "b").Clear(), {}} {
		if got, b, e := r.Pop(); e != api.ErrEmpty || b != nil || got != r {
			t.Errorf("Pop of an empty ring: %v, %q, %v; want the same ring, nothing, ErrEmpty", got, b, e)
		}
	}
}

// P1.2
func TestGrowAddsOneUpToMaxDuct(t *testing.T) {
	r := ringOf(t, 1, "a")
	chunks := []string{"a"}
	for capacity := 2; capacity <= api.MaxDuct; capacity++ {
		var e api.Errno
		if r, e = r.Grow(); e != api.OK {
			t.Fatalf("Grow to %d: %v", capacity, e)
		}
		wantRing(t, "after Grow", r, capacity, chunks...)
		if r, e = r.Push([]byte("bc")); e != api.OK {
			t.Fatalf("Push at %d: %v", capacity, e)
		}
		chunks = append(chunks, "bc")
		if got, e := r.Push([]byte("d")); e != api.ErrFull || got != r {
			t.Errorf("a second Push at %d: %v", capacity, e)
		}
	}
	if got, e := r.Grow(); e != api.ErrFull || got != r {
		t.Errorf("Grow of a full ring of 8: %v, %v; want ErrFull and the same ring", got, e)
	}
	empty := ringOf(t, 8)
	if got, e := empty.Grow(); e != api.ErrFull || got != empty {
		t.Errorf("Grow of an empty ring of 8: %v, %v; want ErrFull and the same ring", got, e)
	}
}

// P1.2
func TestClearKeepsTheCapacity(t *testing.T) {
	r := ringOf(t, 3, "a", "b", "c").Clear()
	wantRing(t, "after Clear", r, 3)
	r, e := r.Push([]byte("d"))
	if e != api.OK {
		t.Errorf("Push behind Clear: %v", e)
	}
	wantRing(t, "Push behind Clear", r, 3, "d")
	wantRing(t, "Clear of an empty ring", ringOf(t, 8).Clear(), 8)
}

// P1, P1.2, P1.3
func TestTheZeroRing(t *testing.T) {
	var zero Ring
	wantRing(t, "the zero ring", zero, 0)
	for _, size := range []int{0, 1, 32, 33} {
		if got, e := zero.Push(make([]byte, size)); e != api.ErrArg || got != zero {
			t.Errorf("Push of %d bytes: %v, %v; want ErrArg and the zero ring", size, got, e)
		}
	}
	if got, e := zero.Grow(); e != api.ErrArg || got != zero {
		t.Errorf("Grow: %v, %v; want ErrArg and the zero ring", got, e)
	}
	if got := zero.Clear(); got != zero {
		t.Errorf("Clear: %v; want the zero ring", got)
	}
}

// P1.3
func TestBytesAddsUpTheChunks(t *testing.T) {
	r := ringOf(t, api.MaxDuct)
	for i := range api.MaxDuct {
		r, _ = r.Push(bytes.Repeat([]byte{byte(i)}, api.MaxChunk))
		if want := (i + 1) * api.MaxChunk; r.Bytes() != want || r.Len() != i+1 {
			t.Errorf("Bytes %d, Len %d; want %d, %d", r.Bytes(), r.Len(), want, i+1)
		}
	}
}

// P1.3
func TestAllStopsWhereItIsTold(t *testing.T) {
	r := ringOf(t, 4, "a", "b", "c", "d")
	for stop := range 4 {
		asked := 0
		r.All()(func(i int, b []byte) bool {
			asked++
			return i < stop
		})
		if asked != stop+1 {
			t.Errorf("told to stop at %d, All went on to %d chunks", stop, asked)
		}
	}
}

// P1.3
func TestAllCanBeGoneOverAgain(t *testing.T) {
	r := ringOf(t, 2, "a", "b")
	all := r.All()
	for range 2 {
		got := ""
		for i, b := range all {
			got += strconv.Itoa(i) + string(b)
		}
		if got != "0a1b" {
			t.Errorf("All: %q", got)
		}
	}
}

// P1.4
func TestPushDoesNotKeepWhatItIsHanded(t *testing.T) {
	b := []byte("abc")
	r, _ := ringOf(t, 2).Push(b)
	if string(b) != "abc" {
		t.Errorf("Push changed its argument to %q", b)
	}
	copy(b, "xyz")
	wantRing(t, "after its argument was changed", r, 2, "abc")
}

// P1.4
func TestPushTakesNothingBehindTheSlice(t *testing.T) {
	b := []byte("abcdef")
	r, _ := ringOf(t, 1).Push(b[1:3])
	wantRing(t, "a piece of a slice", r, 1, "bc")
	if string(b) != "abcdef" {
		t.Errorf("Push changed its argument to %q", b)
	}
}

// P1.4
func TestPopAnswersNewMemory(t *testing.T) {
	r := ringOf(t, 2, "abc", "def")
	rest, b, _ := r.Pop()
	spoil(b)
	wantRing(t, "the ring asked", r, 2, "abc", "def")
	wantRing(t, "the ring answered", rest, 2, "def")
	_, again, _ := r.Pop()
	if string(again) != "abc" {
		t.Errorf("Pop again: %q", again)
	}
}

// P1.4
func TestAllAnswersNewMemory(t *testing.T) {
	r := ringOf(t, 2, "abc", "def")
	all := r.All()
	for _, b := range all {
		spoil(b)
	}
	wantRing(t, "the ring", r, 2, "abc", "def")
	for i, b := range all {
		if want := []string{"abc", "def"}[i]; string(b) != want {
			t.Errorf("gone over again, chunk %d is %q", i, b)
		}
	}
}

// spoil overwrites a chunk, and all the memory that can be reached behind it.
func spoil(b []byte) {
	b = b[:cap(b)]
	for i := range b {
		b[i] = 'x'
	}
}

// P1.6
func TestAllKeepsToTheRingAsked(t *testing.T) {
	r := ringOf(t, 3, "a", "b")
	all := r.All()
	r, _, _ = r.Pop()
	r, _ = r.Push([]byte("c"))
	got := ""
	for _, b := range all {
		got += string(b)
	}
	if got != "ab" {
		t.Errorf("All of the ring as it was: %q, want %q", got, "ab")
	}
}

// P1.6
func TestCallsLeaveTheRingAsked(t *testing.T) {
	r := ringOf(t, 4, "a", "b")
	before := r
	pushed, _ := r.Push([]byte("c"))
	other, _ := r.Push([]byte("d"))
	popped, _, _ := r.Pop()
	popped, _ = popped.Push([]byte("e"))
	grown, _ := r.Grow()
	cleared := r.Clear()
	cleared, _ = cleared.Push([]byte("f"))
	if r != before {
		t.Errorf("the ring asked was changed: %v", r)
	}
	wantRing(t, "the ring asked", r, 4, "a", "b")
	wantRing(t, "pushed", pushed, 4, "a", "b", "c")
	wantRing(t, "another one pushed", other, 4, "a", "b", "d")
	wantRing(t, "popped and pushed", popped, 4, "b", "e")
	wantRing(t, "grown", grown, 5, "a", "b")
	wantRing(t, "cleared and pushed", cleared, 4, "f")
}

// P1.5
func TestRoundAndRoundKeepsTheOrder(t *testing.T) {
	for capacity := 1; capacity <= api.MaxDuct; capacity++ {
		for held := 1; held <= capacity; held++ {
			r := ringOf(t, capacity)
			read := 0
			for wrote := range 100 {
				var e api.Errno
				if r, e = r.Push([]byte(strconv.Itoa(wrote))); e != api.OK {
					t.Fatalf("capacity %d, Push %d: %v", capacity, wrote, e)
				}
				if r.Len() < held {
					continue
				}
				var b []byte
				if r, b, e = r.Pop(); e != api.OK || string(b) != strconv.Itoa(read) {
					t.Fatalf("capacity %d, Pop %d: %q, %v", capacity, read, b, e)
				}
				read++
			}
		}
	}
}

// P1.2, P1.6: a ring keeps nothing of the chunks that it no longer has.
func TestRingsOfTheSameChunksAreTheSameValue(t *testing.T) {
	popped, _, _ := ringOf(t, 3, "long ago", "a", "b").Pop()
	if popped != ringOf(t, 3, "a", "b") {
		t.Errorf("a ring that was popped keeps more than its chunks: %v", popped)
	}
	emptied, _, _ := ringOf(t, 3, "a").Pop()
	if emptied != ringOf(t, 3) || ringOf(t, 3, "a", "b", "c").Clear() != ringOf(t, 3) {
		t.Errorf("a ring that was emptied keeps something")
	}
}

// model is a ring as a plain list, to hold the ring's answers against.
type model struct {
	capacity int
	chunks   []string
}

// walk tries every call on r, and behind each that changes it every call again,
// depth calls deep; want is what r must have.
func walk(t *testing.T, r Ring, want model, depth int) {
	t.Helper()
	wantRing(t, "walk", r, want.capacity, want.chunks...)
	if r.Len() > r.Cap() {
		t.Fatalf("%d chunks in a ring of %d", r.Len(), r.Cap())
	}
	if t.Failed() || depth == 0 {
		return
	}
	walkPush(t, r, want, depth)
	walkPop(t, r, want, depth)
	walkGrow(t, r, want, depth)
	if cleared := r.Clear(); cleared != r {
		walk(t, cleared, model{capacity: want.capacity}, depth-1)
	}
	wantRing(t, "walked from", r, want.capacity, want.chunks...)
}

func walkPush(t *testing.T, r Ring, want model, depth int) {
	t.Helper()
	b := bytes.Repeat([]byte{byte('a' + depth)}, depth)
	got, e := r.Push(b)
	if len(want.chunks) == want.capacity {
		if e != api.ErrFull || got != r {
			t.Fatalf("Push to %v: %v, %v", want, got, e)
		}
		return
	}
	if e != api.OK {
		t.Fatalf("Push to %v: %v", want, e)
	}
	walk(t, got, model{want.capacity, append(slices.Clone(want.chunks), string(b))}, depth-1)
}

func walkPop(t *testing.T, r Ring, want model, depth int) {
	t.Helper()
	got, b, e := r.Pop()
	if len(want.chunks) == 0 {
		if e != api.ErrEmpty || b != nil || got != r {
			t.Fatalf("Pop of %v: %v, %q, %v", want, got, b, e)
		}
		return
	}
	if e != api.OK || string(b) != want.chunks[0] {
		t.Fatalf("Pop of %v: %q, %v", want, b, e)
	}
	walk(t, got, model{want.capacity, want.chunks[1:]}, depth-1)
}

func walkGrow(t *testing.T, r Ring, want model, depth int) {
	t.Helper()
	got, e := r.Grow()
	if want.capacity == api.MaxDuct {
		if e != api.ErrFull || got != r {
			t.Fatalf("Grow of %v: %v, %v", want, got, e)
		}
		return
	}
	if e != api.OK {
		t.Fatalf("Grow of %v: %v", want, e)
	}
	walk(t, got, model{want.capacity + 1, want.chunks}, depth-1)
}

// P1.5, P1.6
func TestEveryRowOfCalls(t *testing.T) {
	for _, capacity := range []int{1, 2, 7, 8} {
		walk(t, ringOf(t, capacity), model{capacity: capacity}, 7)
	}
}
