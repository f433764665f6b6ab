package tests

import (
	"slices"
	"testing"

	"loop.example/s0039/impl"
)

// The constants of chapter 4.
func TestLearnConstants(t *testing.T) {
	if impl.FormSmaller != 0 || impl.FormMask != 1 || impl.FormRange != 2 {
		t.Errorf("forms %d, %d, %d", impl.FormSmaller, impl.FormMask, impl.FormRange)
	}
	if impl.MaxExact != 200 || impl.MaxSplit != 200 {
		t.Errorf("limits %d, %d", impl.MaxExact, impl.MaxSplit)
	}
}

// P9, 4.1: no values are covered by every number, whatever the form.
func TestCoverNoValues(t *testing.T) {
	for _, form := range slices.Concat(learnForms, wrongForms) {
		wantCover(t, nil, form, anyCon())
		wantCover(t, []uint64{}, form, anyCon())
		wantCover(t, values(7, 8)[:0], form, anyCon())
	}
}

// P9, 4.1: a form that is none of the three.
func TestCoverOtherForms(t *testing.T) {
	for _, form := range wrongForms {
		for _, list := range [][]uint64{values(0), values(5), values(5, 5), values(7, 8), values(4, 6, 12), values(allOnes64), values(0, allOnes64)} {
			wantCover(t, list, form, anyCon())
		}
	}
}

// P9: one value, once and repeated, is a mask of all ones with every form.
func TestCoverOneValue(t *testing.T) {
	for _, v := range slices.Concat(edgeNumbers, values(5, 0x5555555555555555, 0xaaaaaaaaaaaaaaaa)) {
		for _, list := range [][]uint64{values(v), values(v, v), values(v, v, v, v, v)} {
			wantCovers(t, list, pointCon(v), pointCon(v), pointCon(v))
		}
	}
}

// P9: the mask of two values that differ in one bit has two elements, and no range has fewer.
func TestCoverOneBit(t *testing.T) {
	for i := range 64 {
		bit := uint64(1) << i
		for _, v := range []uint64{0, allOnes64, 0x5555555555555555, 0x123456789abcdef0} {
			low, high := v&^bit, v|bit
			mask, span := maskCon(allOnes64-bit, low), rangeCon(low, high)
			if i == 0 {
				span = mask // two numbers from an even one on
			}
			wantCovers(t, values(low, high), mask, mask, span)
			wantCovers(t, values(high, low, high), mask, mask, span)
		}
	}
}

// P9: where both covers have all 2^64 elements.
func TestCoverEveryNumber(t *testing.T) {
	wantCovers(t, values(0, allOnes64), anyCon(), anyCon(), anyCon())
	wantCovers(t, values(allOnes64, 0), anyCon(), anyCon(), anyCon())
	wantCovers(t, values(9, allOnes64, 0, 1<<40), anyCon(), anyCon(), anyCon())
}

// P9: a range of one element less than 2^64 is smaller than a mask without a bit, and not smaller than one of a bit.
func TestCoverNearEveryNumber(t *testing.T) {
	wantCovers(t, values(1, 2, allOnes64), rangeCon(1, allOnes64), anyCon(), rangeCon(1, allOnes64))
	wantCovers(t, values(0, 1, allOnes64-1), rangeCon(0, allOnes64-1), anyCon(), rangeCon(0, allOnes64-1))
	wantCovers(t, values(1, allOnes64-1), rangeCon(1, allOnes64-1), anyCon(), rangeCon(1, allOnes64-1))
	wantCovers(t, values(1<<63-1, 1<<63), rangeCon(1<<63-1, 1<<63), anyCon(), rangeCon(1<<63-1, 1<<63))
	wantCovers(t, values(1, allOnes64), maskCon(1, 1), maskCon(1, 1), rangeCon(1, allOnes64))
	wantCovers(t, values(0, allOnes64-1), maskCon(1, 0), maskCon(1, 0), rangeCon(0, allOnes64-1))
}

// P9, 4.1: the document's own examples.
func TestCoverExamples(t *testing.T) {
	wantCovers(t, values(4, 6, 12), maskCon(allOnes64-10, 4), maskCon(allOnes64-10, 4), rangeCon(4, 12))
	wantCovers(t, values(7, 8), rangeCon(7, 8), maskCon(allOnes64-15, 0), rangeCon(7, 8))
}

// P9, 4.1: the mask is taken when both have equally many elements, 2^k of them. The values differ in all bits up to k
// but the one that is asked.
func TestCoverEquallyMany(t *testing.T) {
	for k := 2; k < 64; k++ {
		for _, asked := range []int{1, (k + 1) / 2, k - 1} {
			low, high := uint64(1), uint64(1)<<k
			rest := (high - 1) &^ (1 << asked)
			mask := onesFrom(k)<<1 | 1<<asked
			list := values(high, rest, low)
			wantCovers(t, list, maskCon(mask, 0), maskCon(mask, 0), rangeCon(low, high))
			wantCovers(t, mirrored(list), maskCon(mask, mask), maskCon(mask, mask), rangeCon(allOnes64-high, allOnes64-low))
		}
	}
}

// P9, 4.1: a range of one element more than the mask's 2^k.
func TestCoverRangeOneMore(t *testing.T) {
	for k := 2; k < 64; k++ {
		high := uint64(1) << k
		rest := (high - 1) &^ 2
		mask := onesFrom(k)<<1 | 2
		list := values(0, high, rest)
		wantCovers(t, list, maskCon(mask, 0), maskCon(mask, 0), rangeCon(0, high))
		wantCovers(t, mirrored(list), maskCon(mask, mask), maskCon(mask, mask), rangeCon(allOnes64-high, allOnes64))
	}
}

// P9, 4.1: a range of one element less than the mask's 2^k.
func TestCoverRangeOneLess(t *testing.T) {
	for k := 3; k < 64; k++ {
		low, high := uint64(2), uint64(1)<<k
		rest := (high - 1) &^ 4
		mask := onesFrom(k)<<1 | 4
		list := values(rest, low, high)
		wantCovers(t, list, rangeCon(low, high), maskCon(mask, 0), rangeCon(low, high))
		wantCovers(t, mirrored(list), rangeCon(allOnes64-high, allOnes64-low), maskCon(mask, mask), rangeCon(allOnes64-high, allOnes64-low))
	}
	wantCover(t, values(1, 2, 3), impl.FormSmaller, rangeCon(1, 3))
	wantCover(t, values(12, 13, 14), impl.FormSmaller, rangeCon(12, 14))
}

// P9, 4.1: what is answered is the normal condition, also where it is of another kind than what was taken.
func TestCoverOtherKind(t *testing.T) {
	block := maskCon(onesFrom(2), 4)
	wantCovers(t, values(4, 7), block, block, block)
	wantCovers(t, values(5, 4, 6, 7), block, block, block)
	wantCovers(t, values(4, 5, 7), block, block, block)
	wantCover(t, values(0, 1), impl.FormRange, maskCon(allOnes64-1, 0))
	wantCover(t, values(1<<32, 1<<33-1), impl.FormRange, maskCon(onesFrom(32), 1<<32))
	wantCover(t, values(1<<63, allOnes64), impl.FormRange, maskCon(1<<63, 1<<63))
	wantCover(t, values(0, 1<<63-1), impl.FormRange, maskCon(1<<63, 0))
	wantCover(t, values(0, allOnes64), impl.FormRange, anyCon())
	wantCovers(t, values(5, allOnes64-5), rangeCon(5, allOnes64-5), anyCon(), rangeCon(5, allOnes64-5))
	wantCover(t, values(1<<63, 1<<63-1), impl.FormMask, anyCon())
}

// P9: the answer hangs on which values there are, not on their order or how often they stand there.
func TestCoverOrder(t *testing.T) {
	list := values(1, 4, 300)
	for _, form := range learnForms {
		want := impl.Cover(list, form)
		for _, other := range [][]uint64{values(1, 300, 4), values(4, 1, 300), values(4, 300, 1), values(300, 1, 4), values(300, 4, 1), values(300, 300, 4, 1, 4, 300)} {
			wantCover(t, other, form, want)
		}
	}
}

// Rules for all chapters: the argument is as it was.
func TestCoverArgumentStays(t *testing.T) {
	for _, form := range slices.Concat(learnForms, wrongForms) {
		list := values(12, 4, 6, 4, allOnes64, 0)
		before := slices.Clone(list)
		impl.Cover(list[:4], form)
		if !slices.Equal(list, before) {
			t.Errorf("form %d: %v, before %v", form, list, before)
		}
	}
}

// checkCover holds an answer against the promise and the document's words.
func checkCover(t *testing.T, ref refLearner, list []uint64, form int) {
	t.Helper()
	got := impl.Cover(list, form)
	for _, v := range list {
		if !conHolds(got, v) {
			t.Fatalf("Cover(%x, %d) is %x, which does not hold for %x", list, form, got, v)
		}
	}
	if ref.norm(got) != got {
		t.Fatalf("Cover(%x, %d) is %x, which is not normal", list, form, got)
	}
	if !ref.conWithin(got, refTaken(list, form)) {
		t.Fatalf("Cover(%x, %d) is %x, not within %x", list, form, got, refTaken(list, form))
	}
	if want := ref.cover(list, form); got != want {
		t.Fatalf("Cover(%x, %d) is %x, want %x", list, form, got, want)
	}
}

// P9: over all sets of numbers of three bits, wherever these bits lie, with ones or zeros below them.
func TestCoverWindows(t *testing.T) {
	ref := refLearner{newRef()}
	for _, at := range []int{0, 1, 30, 31, 61} {
		for chosen := 1; chosen < 256; chosen++ {
			var list, filled []uint64
			for v := range uint64(8) {
				if chosen>>v&1 == 1 {
					list = append(list, v<<at)
					filled = append(filled, v<<at, v<<at|(1<<at-1))
				}
			}
			for _, form := range learnForms {
				checkCover(t, ref, list, form)
				checkCover(t, ref, filled, form)
			}
		}
	}
}

// P9: over lists of numbers near each other and near the edges.
func TestCoverRandom(t *testing.T) {
	n := &numbers{state: 91}
	ref := refLearner{newRef()}
	taken := map[[2]int]int{}
	for range 6000 {
		first := randomEdge(n)
		list := values(first)
		for range n.below(6) {
			v := randomEdge(n)
			if n.below(2) == 0 {
				v = first ^ 1<<n.below(64)
			}
			list = append(list, v)
		}
		for _, form := range learnForms {
			checkCover(t, ref, list, form)
			taken[[2]int{form, refTaken(list, form).Kind}]++
		}
	}
	for _, kind := range []int{impl.ConMask, impl.ConRange} {
		if count := taken[[2]int{impl.FormSmaller, kind}]; count < 500 {
			t.Errorf("FormSmaller took kind %d only %d times", kind, count)
		}
	}
}
