package tests

import (
	"testing"

	"loop.example/s0039/impl"
)

func wantWithin(t *testing.T, a, b impl.Con, want bool) {
	t.Helper()
	if got := impl.ConWithin(a, b); got != want {
		t.Errorf("ConWithin(%x, %x) is %v, want %v", a, b, got, want)
	}
}

// wantInner asks for a within b, and not the other way round.
func wantInner(t *testing.T, a, b impl.Con) {
	t.Helper()
	wantWithin(t, a, b, true)
	wantWithin(t, b, a, false)
}

// wantSame asks for each within the other.
func wantSame(t *testing.T, a, b impl.Con) {
	t.Helper()
	wantWithin(t, a, b, true)
	wantWithin(t, b, a, true)
}

// wantApart asks for none within the other.
func wantApart(t *testing.T, a, b impl.Con) {
	t.Helper()
	wantWithin(t, a, b, false)
	wantWithin(t, b, a, false)
}

// P7: ConAny has everything within it, and lies within nothing but all v.
func TestConWithinAny(t *testing.T) {
	wantSame(t, anyCon(), anyCon())
	wantSame(t, anyCon(), maskCon(0, 0))
	wantSame(t, anyCon(), rangeCon(0, allOnes64))
	wantSame(t, maskCon(0, 0), rangeCon(0, allOnes64))
	wantInner(t, maskCon(1, 0), anyCon())
	wantInner(t, maskCon(1<<63, 1<<63), anyCon())
	wantInner(t, pointCon(allOnes64), anyCon())
	wantInner(t, rangeCon(0, allOnes64-1), anyCon())
	wantInner(t, rangeCon(1, allOnes64), anyCon())
	wantInner(t, rangeCon(7, 7), anyCon())
}

// P7: two masks.
func TestConWithinMasks(t *testing.T) {
	wantInner(t, maskCon(3, 2), maskCon(1, 0))
	wantInner(t, maskCon(3, 2), maskCon(2, 2))
	wantInner(t, pointCon(6), maskCon(6, 6))
	wantInner(t, maskCon(1<<63|1, 1), maskCon(1<<63, 0))
	wantApart(t, maskCon(3, 3), maskCon(1, 0))
	wantApart(t, maskCon(3, 2), maskCon(3, 0))
	wantApart(t, maskCon(1, 0), maskCon(2, 0))
	wantApart(t, maskCon(1<<63, 0), maskCon(1<<63, 1<<63))
	wantApart(t, pointCon(6), pointCon(7))
}

// P7: two ranges.
func TestConWithinRanges(t *testing.T) {
	wantInner(t, rangeCon(3, 4), rangeCon(3, 5))
	wantInner(t, rangeCon(3, 4), rangeCon(2, 4))
	wantInner(t, rangeCon(1, allOnes64), rangeCon(0, allOnes64))
	wantInner(t, rangeCon(0, allOnes64-1), rangeCon(0, allOnes64))
	wantInner(t, rangeCon(1<<63-1, 1<<63), rangeCon(1<<63-1, allOnes64))
	wantApart(t, rangeCon(3, 5), rangeCon(4, 6))
	wantApart(t, rangeCon(3, 5), rangeCon(6, 8))
	wantApart(t, rangeCon(0, 0), rangeCon(allOnes64, allOnes64))
}

// P7: a mask set within a range, and one that leaves it by one number at either end.
func TestConWithinMaskInRange(t *testing.T) {
	for _, c := range []struct {
		mask      impl.Con
		low, high uint64
	}{
		{maskCon(1, 1), 1, allOnes64},
		{maskCon(allOnes64-5, 8), 8, 13},
		{maskCon(allOnes64-0x90, 0x40), 0x40, 0xd0},
		{maskCon(allOnes64-1<<63, 17), 17, 1<<63 + 17},
		{maskCon(1<<63|1, 1<<63|1), 1<<63 + 1, allOnes64},
		{maskCon(onesFrom(32)-1<<33, 1<<32), 1 << 32, 1<<34 - 1},
	} {
		wantInner(t, c.mask, rangeCon(c.low, c.high))
		wantInner(t, c.mask, rangeCon(c.low-1, c.high))
		wantApart(t, c.mask, rangeCon(c.low+1, c.high))
		wantApart(t, c.mask, rangeCon(c.low, c.high-1))
	}
	wantInner(t, maskCon(1, 0), rangeCon(0, allOnes64-1))
	wantApart(t, maskCon(1, 0), rangeCon(0, allOnes64-2))
	wantApart(t, maskCon(1, 0), rangeCon(1, allOnes64-1))
}

// P7: a range within a mask set, and one that leaves it by one number at either end.
func TestConWithinRangeInMask(t *testing.T) {
	wantInner(t, rangeCon(9, 11), maskCon(allOnes64-3, 8))
	wantInner(t, rangeCon(8, 10), maskCon(allOnes64-3, 8))
	wantApart(t, rangeCon(8, 12), maskCon(0xfc, 8))
	wantApart(t, rangeCon(7, 11), maskCon(0xfc, 8))
	wantInner(t, rangeCon(4, 7), maskCon(8, 0))
	wantInner(t, rangeCon(16, 23), maskCon(8, 0))
	wantApart(t, rangeCon(6, 8), maskCon(8, 0))
	wantApart(t, rangeCon(7, 16), maskCon(8, 0))
	wantApart(t, rangeCon(6, 7), maskCon(1, 0))
	wantInner(t, rangeCon(6, 6), maskCon(1, 0))
	wantInner(t, rangeCon(1<<63+1, allOnes64), maskCon(1<<63, 1<<63))
	wantInner(t, rangeCon(1, 1<<63-1), maskCon(1<<63, 0))
	wantApart(t, rangeCon(1<<63-1, 1<<63), maskCon(1<<63, 0))
	wantApart(t, rangeCon(1, allOnes64), maskCon(1<<63, 0))
}

// P7: one set in two forms.
func TestConWithinSameSet(t *testing.T) {
	wantSame(t, pointCon(7), rangeCon(7, 7))
	wantSame(t, pointCon(allOnes64), rangeCon(allOnes64, allOnes64))
	wantSame(t, maskCon(allOnes64-7, 8), rangeCon(8, 15))
	wantSame(t, maskCon(1<<63, 1<<63), rangeCon(1<<63, allOnes64))
	wantSame(t, maskCon(onesFrom(32), 5<<32), rangeCon(5<<32, 6<<32-1))
}

// P7: nothing lies within a condition that is not valid, and such a one lies within nothing.
func TestConWithinNotValid(t *testing.T) {
	for _, bad := range brokenCons {
		for _, good := range []impl.Con{anyCon(), maskCon(1, 1), pointCon(0), rangeCon(1, 2), rangeCon(0, allOnes64)} {
			wantApart(t, bad, good)
		}
		wantWithin(t, bad, bad, false)
	}
}

// P7: over all pairs of masks and ranges of a few bits, wherever these bits lie.
func TestConWithinWindows(t *testing.T) {
	for _, at := range []int{0, 30, 61} {
		cons := windowCons(at, 3)
		for _, a := range cons {
			for _, b := range cons {
				wantWithin(t, a, b, setWithin(a, b))
			}
		}
	}
}

// P7
func TestConWithinRandom(t *testing.T) {
	n := &numbers{state: 72}
	held := 0
	for range 20000 {
		a, b := randomCon(n), randomCon(n)
		want := setWithin(a, b)
		if want {
			held++
		}
		wantWithin(t, a, b, want)
		wantWithin(t, a, a, true)
	}
	if held < 1000 {
		t.Errorf("only %d of the pairs lie within", held)
	}
}
