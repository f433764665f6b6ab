package tests

import (
	"bytes"
	"slices"
	"testing"

	"loop.example/s0039/impl"
)

// P5, chapter 2.3: a log written out by hand.
func TestEncodeLogByHand(t *testing.T) {
	calls := []impl.Call{
		call(0, 127, 128, 16383, 16384, 300, allOnes, allOnes64),
		call(allOnes, allOnes, 0, 0, 0, 0, 0, 1<<63),
	}
	first := []byte{
		0, 127, 128, 1, 255, 127, 128, 128, 1, 172, 2, 255, 255, 255, 255, 15,
		255, 255, 255, 255, 255, 255, 255, 255, 255, 1,
	}
	second := []byte{
		255, 255, 255, 255, 15, 255, 255, 255, 255, 15, 0, 0, 0, 0, 0,
		128, 128, 128, 128, 128, 128, 128, 128, 128, 1,
	}
	want := slices.Concat([]byte("CLOG"), []byte{1, 2, 0}, part(first), part(second))
	if got := impl.EncodeLog(calls); !bytes.Equal(got, want) {
		t.Errorf("log %v, want %v", got, want)
	}
}

// P5, chapter 2.3: the log of every edge number at every place.
func TestEncodeLogOfEdges(t *testing.T) {
	for _, c := range edgeCalls() {
		want := logOf(bodyOfCall(c))
		if got := impl.EncodeLog([]impl.Call{c}); !bytes.Equal(got, want) {
			t.Errorf("log of %v is %v, want %v", c, got, want)
		}
	}
}

// P5, chapter 2.3: repeated calls stay, and the order stays.
func TestEncodeLogKeepsOrderAndRepetition(t *testing.T) {
	a := call(2, 2, 1, 1, 1, 1, 1, 1)
	b := call(1, 1, 1, 1, 1, 1, 1, 1)
	want := logOf(bodyOfCall(a), bodyOfCall(b), bodyOfCall(a), bodyOfCall(a))
	if got := impl.EncodeLog([]impl.Call{a, b, a, a}); !bytes.Equal(got, want) {
		t.Errorf("log %v, want %v", got, want)
	}
}

// P5, chapter 2.3: no calls, both bytes of the number of calls, MaxCalls and one more.
func TestEncodeLogCounts(t *testing.T) {
	for _, n := range []int{0, 1, 255, 256, 257, impl.MaxCalls - 1, impl.MaxCalls} {
		calls := manyCalls(n)
		want := logHead(n)
		for _, c := range calls {
			want = append(want, part(bodyOfCall(c))...)
		}
		if got := impl.EncodeLog(calls); !bytes.Equal(got, want) {
			t.Errorf("the log of %d calls is not as stated (%d bytes, want %d)", n, len(got), len(want))
		}
	}
	for _, n := range []int{impl.MaxCalls + 1, 65536, 65537} {
		if got := impl.EncodeLog(manyCalls(n)); len(got) != 0 {
			t.Errorf("%d calls have a log of %d bytes, want none", n, len(got))
		}
	}
}

// P5, chapter 2.3: one call that is not valid, wherever it stands, leaves no log.
func TestEncodeLogOfCallsThatAreNotValid(t *testing.T) {
	for _, n := range []int{0, 1, 5, 7, 12} {
		for at := range 3 {
			calls := []impl.Call{zeroCall(), zeroCall(), zeroCall()}
			calls[at].Args = make([]uint64, n)
			if got := impl.EncodeLog(calls); len(got) != 0 {
				t.Errorf("a call with %d arguments at %d: log %v, want none", n, at, got)
			}
		}
	}
}

// Rules for all chapters: EncodeLog leaves its argument as it is, and every log is new memory.
func TestEncodeLogMemory(t *testing.T) {
	calls := manyCalls(3)
	before := copyCalls(calls)
	first := impl.EncodeLog(calls)
	second := impl.EncodeLog(calls)
	want := slices.Clone(first)
	clear(second[:cap(second)])
	if !bytes.Equal(first, want) {
		t.Error("two logs share memory")
	}
	if !sameCalls(calls, before) {
		t.Errorf("the calls became %v", calls)
	}
}
