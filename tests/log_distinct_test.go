package tests

import (
	"slices"
	"testing"

	"loop.example/s0039/impl"
)

// ascendingCalls has, in their order, calls that differ in one thing alone from the one before, as far as that goes.
func ascendingCalls() []impl.Call {
	return []impl.Call{
		call(0, 0),
		call(0, 0, 0),
		call(0, 0, 0, 0),
		call(0, 0, 0, 0, 0, 0, 0, 0),
		call(0, 0, 0, 0, 0, 0, 0, 0, 0),
		call(0, 0, 0, 0, 0, 0, 0, 1),
		call(0, 0, 0, 0, 0, 0, 1, 0),
		call(0, 0, 0, 0, 0, 1),
		call(0, 0, 0, 0, 1, 0, 0, 0),
		call(0, 0, 0, 1, 0, 0, 0, 0),
		call(0, 0, 1, 0, 0, 0, 0, 0),
		call(0, 0, 2),
		call(0, 0, 255),
		call(0, 0, 256),
		call(0, 0, 1<<31, 5),
		call(0, 0, 1<<32, 4),
		call(0, 0, 1<<63-1, 3),
		call(0, 0, 1<<63, 2),
		call(0, 0, allOnes64),
		call(0, 0, allOnes64, 0),
		call(0, 1),
		call(0, 1, 0, 0, 0, 0, 0, 0),
		call(0, 1<<31-1, 9),
		call(0, 1<<31, 8),
		call(0, allOnes),
		call(1, 0),
		call(1, 0, 0, 0, 0, 0, 0, 0),
		call(1<<31-1, 9, 9),
		call(1<<31, 8, 8),
		call(allOnes, 0),
		call(allOnes, allOnes, allOnes64),
	}
}

func wantDistinct(t *testing.T, name string, calls, want []impl.Call) {
	t.Helper()
	before := copyCalls(calls)
	if got := impl.Distinct(calls); !sameCalls(got, want) {
		t.Errorf("%s: %v, want %v", name, got, want)
	}
	if !sameCalls(calls, before) {
		t.Errorf("%s: the argument became %v", name, calls)
	}
}

// P6, chapter 2.1: no calls, and one call again and again.
func TestDistinctOfFewCalls(t *testing.T) {
	one := call(1, 2, 3, 4, 5, 6, 7, 8)
	wantDistinct(t, "nil", nil, nil)
	wantDistinct(t, "no calls", []impl.Call{}, nil)
	wantDistinct(t, "one call", []impl.Call{one}, []impl.Call{one})
	wantDistinct(t, "one call twice", []impl.Call{one, call(1, 2, 3, 4, 5, 6, 7, 8)}, []impl.Call{one})
	wantDistinct(t, "one call three times", []impl.Call{one, one, one}, []impl.Call{one})
	wantDistinct(t, "nil and an empty list", []impl.Call{{Arch: 1}, {Arch: 1, Args: []uint64{}}}, []impl.Call{{Arch: 1}})
}

// P6, chapter 2.1: every two calls that differ stay, the smaller one first.
func TestDistinctOfPairs(t *testing.T) {
	calls := ascendingCalls()
	for i := range calls {
		for j := i + 1; j < len(calls); j++ {
			want := []impl.Call{calls[i], calls[j]}
			wantDistinct(t, "in order", []impl.Call{calls[i], calls[j]}, want)
			wantDistinct(t, "in the other order", []impl.Call{calls[j], calls[i]}, want)
			wantDistinct(t, "repeated", []impl.Call{calls[j], calls[i], calls[j], calls[i]}, want)
		}
	}
}

// P6: order and repetition in the argument change nothing.
func TestDistinctOfOtherOrders(t *testing.T) {
	calls := ascendingCalls()
	wantDistinct(t, "in order", calls, calls)
	backwards := slices.Clone(calls)
	slices.Reverse(backwards)
	wantDistinct(t, "backwards", backwards, calls)
	n := &numbers{state: 6}
	for range 200 {
		mixed := slices.Clone(calls)
		for range n.below(60) {
			mixed = append(mixed, calls[n.below(len(calls))])
		}
		for i := range mixed {
			j := n.below(i + 1)
			mixed[i], mixed[j] = mixed[j], mixed[i]
		}
		wantDistinct(t, "mixed", mixed, calls)
	}
}

// P6, chapter 2.1: MaxCalls does not bound the list.
func TestDistinctOfManyCalls(t *testing.T) {
	calls := manyCalls(3 * impl.MaxCalls)
	got := impl.Distinct(append(slices.Clone(calls), calls...))
	if len(got) != len(calls) {
		t.Errorf("%d different calls, want %d", len(got), len(calls))
	}
}

// Rules for all chapters: the answer's lists are new memory, each its own.
func TestDistinctMemory(t *testing.T) {
	shared := []uint64{1, 2, 3, 4, 5, 6, 7, 8}
	calls := []impl.Call{{Nr: 2, Args: shared[:6]}, {Nr: 1, Args: shared[:6]}, {Nr: 1, Args: shared[:6]}, {Nr: 3, Args: shared[:0]}}
	got := impl.Distinct(calls)
	got[0].Args[0] = 99
	got[0].Args = append(got[0].Args, 98)
	got[2].Args = append(got[2].Args, 97)
	if got[1].Args[0] != 1 {
		t.Error("two lists of the answer share memory")
	}
	if !slices.Equal(shared, []uint64{1, 2, 3, 4, 5, 6, 7, 8}) {
		t.Errorf("the answer shares memory with the argument: %v", shared)
	}
	got[1].Nr = 55
	if calls[0].Nr != 2 || calls[1].Nr != 1 {
		t.Error("the answer's list is the argument's")
	}
	sorted := []impl.Call{call(1, 1, 1), call(1, 2, 1)}
	impl.Distinct(sorted)[0].Args[0] = 5
	if sorted[0].Args[0] != 1 {
		t.Error("the answer to a list in order shares its arguments")
	}
}
