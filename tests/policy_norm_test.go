package tests

import (
	"testing"

	"loop.example/s0039/impl"
)

// blockSizes are the k of the ranges of 2^k numbers that are tried; with the smaller ones a range that is one number
// off may still be another block.
var blockSizes = []int{2, 3, 4, 7, 31, 32, 33, 62, 63}

func wantNorm(t *testing.T, given, want impl.Con) {
	t.Helper()
	if got := impl.NormCon(given); got != want {
		t.Errorf("NormCon(%x) is %x, want %x", given, got, want)
	}
}

// P7: the normal condition of each kind.
func TestNormConKinds(t *testing.T) {
	wantNorm(t, anyCon(), anyCon())
	wantNorm(t, maskCon(0, 0), anyCon())
	wantNorm(t, rangeCon(0, allOnes64), anyCon())
	for _, c := range []impl.Con{
		pointCon(0), pointCon(1), pointCon(1 << 63), pointCon(allOnes64),
		maskCon(1, 0), maskCon(1, 1), maskCon(1<<63, 0), maskCon(1<<63, 1<<63),
		maskCon(0xff, 3), maskCon(0xf0f0, 0x3050), maskCon(allOnes64-2, 5), maskCon(allOnes64>>1, 9),
		maskCon(onesFrom(12), 1<<12), maskCon(onesFrom(12), 0), maskCon(onesFrom(32), 1<<32), maskCon(onesFrom(33), onesFrom(33)),
		rangeCon(0, 2), rangeCon(1, 2), rangeCon(1, allOnes64), rangeCon(0, allOnes64-1), rangeCon(1, allOnes64-1),
		rangeCon(3, allOnes64), rangeCon(1<<63-1, 1<<63), rangeCon(allOnes64-2, allOnes64), rangeCon(1<<63-1, allOnes64), rangeCon(1<<63+1, allOnes64),
		rangeCon(100, 200), rangeCon(1<<32, 1<<33), rangeCon(0, 1<<32), rangeCon(0, 1<<63),
	} {
		wantNorm(t, c, c)
	}
}

// P7: a condition that is not valid is answered as it is.
func TestNormConNotValid(t *testing.T) {
	for _, c := range brokenCons {
		wantNorm(t, c, c)
	}
}

// P7: a range of one number is a mask of all ones.
func TestNormConOneNumber(t *testing.T) {
	for _, v := range edgeNumbers {
		wantNorm(t, rangeCon(v, v), pointCon(v))
	}
}

// P7: a range of two numbers is a mask exactly when it begins at an even one.
func TestNormConTwoNumbers(t *testing.T) {
	for _, v := range []uint64{0, 2, 6, 1 << 31, 1 << 32, 1 << 63, allOnes64 - 1} {
		wantNorm(t, rangeCon(v, v+1), maskCon(allOnes64-1, v))
	}
	for _, v := range []uint64{1, 3, 1<<32 - 1, 1<<63 - 1, 1<<63 + 1, allOnes64 - 2} {
		wantNorm(t, rangeCon(v, v+1), rangeCon(v, v+1))
	}
}

// P7: a range of 2^k numbers from a multiple of 2^k is a mask with ones from k up.
func TestNormConBlocks(t *testing.T) {
	for _, k := range blockSizes {
		size := uint64(1) << k
		for _, low := range []uint64{0, size, size * 2, size * 5, allOnes64 - size + 1} {
			wantNorm(t, rangeCon(low, low+size-1), maskCon(allOnes64-(size-1), low))
		}
	}
}

// P7: a range that is one number beside a block, or has one number more or less, stays a range.
func TestNormConBesideBlocks(t *testing.T) {
	for _, k := range blockSizes {
		size := uint64(1) << k
		for _, low := range []uint64{0, size, allOnes64 - size + 1} {
			high := low + size - 1
			beside := []impl.Con{rangeCon(low+1, high), rangeCon(low, high-1)}
			if low > 0 {
				beside = append(beside, rangeCon(low-1, high), rangeCon(low-1, high-1))
			}
			if high < allOnes64 {
				beside = append(beside, rangeCon(low, high+1), rangeCon(low+1, high+1))
			}
			for _, c := range beside {
				wantNorm(t, c, c)
			}
		}
	}
}

// P7: a range of 2^k numbers that begins at a multiple of a smaller power of two alone stays a range.
func TestNormConHalfBlocks(t *testing.T) {
	for _, k := range blockSizes {
		size := uint64(1) << k
		c := rangeCon(size/2, size/2+size-1)
		wantNorm(t, c, c)
	}
}

// checkNorm holds an answer against the document's words: the same set, valid, and the first of the three forms that
// the set has.
func checkNorm(t *testing.T, c impl.Con) {
	t.Helper()
	got := impl.NormCon(c)
	if !impl.ConWithin(got, got) {
		t.Fatalf("NormCon(%x) is %x, which is not valid", c, got)
	}
	if !sameSet(c, got) {
		t.Fatalf("NormCon(%x) is %x, another set", c, got)
	}
	if impl.NormCon(got) != got {
		t.Fatalf("NormCon(%x) is %x, which is not normal", c, got)
	}
	if got != refNorm(c) {
		t.Fatalf("NormCon(%x) is %x, want %x", c, got, refNorm(c))
	}
}

// refNorm tries the document's k one after another.
func refNorm(c impl.Con) impl.Con {
	if setWithin(anyCon(), c) {
		return anyCon()
	}
	if c.Kind == impl.ConRange {
		for k := range 64 {
			if block := maskCon(onesFrom(k), c.A); c.A%(1<<k) == 0 && sameSet(c, block) {
				return block
			}
		}
	}
	return c
}

// P7: over all masks and ranges of a few bits, wherever these bits lie.
func TestNormConWindows(t *testing.T) {
	for _, at := range []int{0, 1, 30, 31, 32, 60, 61} {
		for _, c := range windowCons(at, 3) {
			checkNorm(t, c)
		}
	}
}

// P7
func TestNormConRandom(t *testing.T) {
	n := &numbers{state: 71}
	for range 5000 {
		checkNorm(t, randomCon(n))
	}
}

// P7: two valid conditions have the same set exactly if their normal conditions are equal.
func TestNormConTellsSets(t *testing.T) {
	for _, at := range []int{0, 31, 61} {
		cons := windowCons(at, 3)
		for _, a := range cons {
			for _, b := range cons {
				if (impl.NormCon(a) == impl.NormCon(b)) != sameSet(a, b) {
					t.Fatalf("%x and %x: normal %x and %x", a, b, impl.NormCon(a), impl.NormCon(b))
				}
			}
		}
	}
}
