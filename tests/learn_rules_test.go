package tests

import (
	"slices"
	"testing"

	"loop.example/s0039/impl"
)

// P10, 4.2: one entry for each Arch and Nr, ascending; what is logged of one has nothing to do with another.
func TestLearnEntries(t *testing.T) {
	ids := [][2]uint32{{0, 0}, {0, 1}, {0, allOnes}, {1, 0}, {1, 7}, {2, 7}, {3, 9}, {9, 3}, {9, 200}, {256, 3}, {allOnes, 0}, {allOnes, 7}, {allOnes, allOnes}}
	var calls []impl.Call
	var want impl.Policy
	for i, id := range ids {
		v := uint64(100 * (i + 1))
		calls = append(calls, call(id[0], id[1], v, 0, 0, 0, 0, 5), call(id[0], id[1], v+3, 0, 0, 0, 0, 5))
		rule := pointRule(0, 0, 0, 0, 0, 5)
		rule.Cons[0] = impl.Cover(values(v, v+3), impl.FormRange)
		want.Entries = append(want.Entries, entry(id[0], id[1], rule))
	}
	k := knobs(1, 1, impl.FormRange)
	wantLearned(t, "ascending", calls, k, want)
	slices.Reverse(calls)
	wantLearned(t, "descending", calls, k, want)
	n := &numbers{state: 101}
	for range 20 {
		wantLearned(t, "in any order", shuffled(n, calls), k, want)
	}
}

// P10, 4.2: as many entries as calls.
func TestLearnManyEntries(t *testing.T) {
	var calls []impl.Call
	var want impl.Policy
	for i := range uint32(impl.MaxCalls) {
		v := uint64(i) << 30
		calls = append(calls, call(i/25, i%25*1000, v, 1, 2, 3, 4, v+1))
		want.Entries = append(want.Entries, entry(i/25, i%25*1000, pointRule(v, 1, 2, 3, 4, v+1)))
	}
	slices.Reverse(calls)
	for _, k := range []impl.Knobs{{}, knobs(200, 200, impl.FormMask)} {
		wantLearned(t, "each call another", calls, k, want)
	}
}

// P10, 4.2: different calls of one entry count for all of its own and for no other one's.
func TestLearnEntriesByThemselves(t *testing.T) {
	calls := []impl.Call{
		call(1, 5, 1, 0, 0, 0, 0, 0), call(2, 5, 1, 0, 0, 0, 0, 0), call(2, 5, 4, 0, 0, 0, 0, 0),
		call(3, 5, 1, 0, 0, 0, 0, 0), call(3, 5, 4, 0, 0, 0, 0, 0), call(3, 5, 9, 0, 0, 0, 0, 0),
	}
	point := func(v uint64) impl.Rule { return oneRule(pointCon(v)) }
	wantLearned(t, "exact", calls, knobs(2, 0, impl.FormRange), policy(
		entry(1, 5, point(1)), entry(2, 5, point(1), point(4)), entry(3, 5, oneRule(rangeCon(1, 9)))))
	wantLearned(t, "split", calls, knobs(0, 2, impl.FormRange), policy(
		entry(1, 5, point(1)), entry(2, 5, point(1), point(4)), entry(3, 5, oneRule(rangeCon(1, 9)))))
}

// P10, 4.2: T with exactly Exact elements, repeated calls not counted, and with one more.
func TestLearnExact(t *testing.T) {
	for _, n := range []int{1, 2, 3, 7, 50} {
		var calls []impl.Call
		var points []impl.Rule
		for i := range n {
			args := values(uint64(3*i), 0, uint64(i/2), 0, 0, 77)
			calls = append(calls, call(9, 3, args...), call(9, 3, args...))
			points = append(points, pointRule(args...))
		}
		slices.Reverse(calls)
		for _, form := range learnForms {
			wantLearned(t, "exactly", calls, knobs(n, 0, form), onePolicy(points...))
			wantLearned(t, "exactly, with a split", calls, knobs(n, 200, form), onePolicy(points...))
			wantLearned(t, "fewer", calls, knobs(n+1, 0, form), onePolicy(points...))
		}
		whole := oneRule(rangeCon(0, uint64(3*n-3)), pointCon(0), rangeCon(0, uint64(n-1)/2), pointCon(0), pointCon(0), pointCon(77))
		for i, c := range whole.Cons {
			whole.Cons[i] = refNorm(c)
		}
		wantLearned(t, "one more", calls, knobs(n-1, 0, impl.FormRange), onePolicy(whole))
	}
}

// P10, 4.2: the rules of exact lists stand in the order of the lists, the first differing place deciding.
func TestLearnExactOrder(t *testing.T) {
	lists := [][]uint64{
		{0, 0, 0, 0, 0, 0}, {0, 0, 0, 0, 0, allOnes64}, {0, 0, 0, 0, 1, 0}, {0, 0, 0, 1 << 63, 0, 0}, {0, 0, 2, 0, 0, 0}, {0, 0, 10, 0, 0, 0},
		{0, 5, 0, 0, 0, 0}, {1, 0, 9, 0, 0, 0}, {256, 0, 0, 0, 0, 0}, {1 << 32, 0, 0, 0, 0, 0}, {1<<63 - 1, 0, 0, 0, 0, 0}, {1 << 63, 0, 0, 0, 0, 0},
	}
	var points []impl.Rule
	for _, args := range lists {
		points = append(points, pointRule(args...))
	}
	n := &numbers{state: 102}
	for range 20 {
		calls := shuffled(n, append(oneCalls(lists...), oneCalls(lists[3:7]...)...))
		for _, form := range learnForms {
			wantLearned(t, "in any order", calls, knobs(len(lists), 200, form), onePolicy(points...))
		}
	}
}

// P10, 4.2: an index with exactly Split different values, and with one more.
func TestLearnSplit(t *testing.T) {
	for at := range 6 {
		for _, n := range []int{2, 3, 5, 40} {
			var calls []impl.Call
			var rules []impl.Rule
			for i := range n {
				c := oneCalls(nil)[0]
				c.Args[at] = uint64(6 * i)
				rules = append(rules, pointRule(c.Args...))
				calls = append(calls, c, c)
			}
			slices.Reverse(calls)
			wantLearned(t, "exactly", calls, knobs(0, n, impl.FormRange), onePolicy(rules...))
			wantLearned(t, "exactly, with too small an Exact", calls, knobs(n-1, n, impl.FormRange), onePolicy(rules...))
			wantLearned(t, "fewer", calls, knobs(0, 200, impl.FormRange), onePolicy(rules...))
			whole := oneRule()
			whole.Cons[at] = rangeCon(0, uint64(6*n-6))
			wantLearned(t, "one more", calls, knobs(0, n-1, impl.FormRange), onePolicy(whole))
		}
	}
}

// P10, 4.2: a rule of a split covers those lists alone that have its value, and tells repeated ones once.
func TestLearnSplitGroups(t *testing.T) {
	calls := oneCalls(
		values(8, 1, 4, 3), values(8, 2, 6, 3), values(8, 3, 12, 3),
		values(2, 7, 0, 9), values(2, 8, allOnes64, 9), values(2, 7, 0, 9),
		values(5, 6, 6, 6),
	)
	middle := oneRule(pointCon(5), pointCon(6), pointCon(6), pointCon(6))
	cases := []struct {
		form        int
		first, last impl.Rule
	}{
		{impl.FormSmaller, oneRule(pointCon(2), rangeCon(7, 8), anyCon(), pointCon(9)),
			oneRule(pointCon(8), rangeCon(1, 3), maskCon(allOnes64-10, 4), pointCon(3))},
		{impl.FormMask, oneRule(pointCon(2), maskCon(onesFrom(4), 0), anyCon(), pointCon(9)),
			oneRule(pointCon(8), maskCon(onesFrom(2), 0), maskCon(allOnes64-10, 4), pointCon(3))},
		{impl.FormRange, oneRule(pointCon(2), rangeCon(7, 8), anyCon(), pointCon(9)),
			oneRule(pointCon(8), rangeCon(1, 3), rangeCon(4, 12), pointCon(3))},
	}
	n := &numbers{state: 103}
	for _, c := range cases {
		want := onePolicy(c.first, middle, c.last)
		wantLearned(t, "three groups", calls, knobs(5, 3, c.form), want)
		for range 10 {
			wantLearned(t, "in any order", shuffled(n, calls), knobs(0, 3, c.form), want)
		}
	}
}

// P10, 4.2: an index at which all values are equal, or too many differ, is passed over.
func TestLearnSplitLaterIndex(t *testing.T) {
	calls := oneCalls(values(4, 10, 20, 0, 1), values(4, 11, 21, 0, 1), values(4, 12, 20, 0, 2), values(4, 13, 21, 0, 2))
	wantLearned(t, "the third", calls, knobs(3, 3, impl.FormMask), onePolicy(
		oneRule(pointCon(4), maskCon(allOnes64-6, 8), pointCon(20), pointCon(0), maskCon(onesFrom(2), 0)),
		oneRule(pointCon(4), maskCon(allOnes64-6, 9), pointCon(21), pointCon(0), maskCon(onesFrom(2), 0)),
	))
	last := oneCalls(values(0, 0, 0, 0, 0, 9), values(0, 0, 0, 0, 0, 8))
	wantLearned(t, "the last", last, knobs(1, 2, impl.FormMask), onePolicy(pointRule(0, 0, 0, 0, 0, 8), pointRule(0, 0, 0, 0, 0, 9)))
}

// P10, 4.2: of two indexes that could be split the smaller is, even where the other has fewer values.
func TestLearnSplitFirstOfTwo(t *testing.T) {
	calls := oneCalls(values(0, 3, 7), values(0, 2, 7), values(0, 1, 9))
	rules := []impl.Rule{pointRule(0, 1, 9, 0, 0, 0), pointRule(0, 2, 7, 0, 0, 0), pointRule(0, 3, 7, 0, 0, 0)}
	wantLearned(t, "the one with more values", calls, knobs(0, 3, impl.FormSmaller), onePolicy(rules...))
	wantLearned(t, "the only one left", calls, knobs(0, 2, impl.FormSmaller), onePolicy(
		oneRule(pointCon(0), maskCon(allOnes64-1, 2), pointCon(7)), oneRule(pointCon(0), pointCon(1), pointCon(9))))
	equal := oneCalls(values(1, 5), values(1, 6), values(2, 5), values(2, 6))
	pair := maskCon(allOnes64-3, 4)
	wantLearned(t, "equally many", equal, knobs(3, 2, impl.FormMask), onePolicy(oneRule(pointCon(1), pair), oneRule(pointCon(2), pair)))
}

// P10, 4.2: with Split 0 and 1 there is nothing to split.
func TestLearnNoSplit(t *testing.T) {
	calls := oneCalls(values(4, 1), values(6, 1), values(12, 1), values(4, 1))
	for _, split := range []int{0, 1} {
		wantLearned(t, "smaller", calls, knobs(2, split, impl.FormSmaller), onePolicy(oneRule(maskCon(allOnes64-10, 4), pointCon(1))))
		wantLearned(t, "mask", calls, knobs(0, split, impl.FormMask), onePolicy(oneRule(maskCon(allOnes64-10, 4), pointCon(1))))
		wantLearned(t, "range", calls, knobs(2, split, impl.FormRange), onePolicy(oneRule(rangeCon(4, 12), pointCon(1))))
	}
}

// P10, 4.2: one rule with the cover of every index for itself.
func TestLearnWhole(t *testing.T) {
	calls := oneCalls(
		values(4, 7, 0, 1, 1<<63, 1), values(6, 8, 5, 4, 1<<63-1, 1),
		values(12, 7, allOnes64, 1, 1<<63, 1), values(4, 7, 9, 4, 1<<63, 1),
	)
	wantLearned(t, "smaller", calls, knobs(3, 1, impl.FormSmaller), onePolicy(oneRule(
		maskCon(allOnes64-10, 4), rangeCon(7, 8), anyCon(), maskCon(allOnes64-5, 0), rangeCon(1<<63-1, 1<<63), pointCon(1))))
	wantLearned(t, "mask", calls, knobs(3, 1, impl.FormMask), onePolicy(oneRule(
		maskCon(allOnes64-10, 4), maskCon(onesFrom(4), 0), anyCon(), maskCon(allOnes64-5, 0), anyCon(), pointCon(1))))
	wantLearned(t, "range", calls, knobs(3, 1, impl.FormRange), onePolicy(oneRule(
		rangeCon(4, 12), rangeCon(7, 8), anyCon(), rangeCon(1, 4), rangeCon(1<<63-1, 1<<63), pointCon(1))))
}

// P10: MaxPerEntry rules in an entry, by exact lists and by a split, and MaxRules in all.
func TestLearnFullEntries(t *testing.T) {
	var calls []impl.Call
	for i := range uint64(impl.MaxCalls) {
		calls = append(calls, call(uint32(i/200), 1, i%200, i, 0, 0, 0, i*i))
	}
	for _, k := range []impl.Knobs{knobs(200, 0, impl.FormMask), knobs(0, 200, impl.FormMask), knobs(199, 200, impl.FormMask)} {
		p, code := impl.Learn(calls, k)
		if code != impl.CodeOK || !impl.ValidPolicy(p) || len(p.Entries) != 5 {
			t.Fatalf("%v: code %d and %d entries", k, code, len(p.Entries))
		}
		for i, e := range p.Entries {
			if len(e.Rules) != impl.MaxPerEntry {
				t.Errorf("%v: %d rules in entry %d", k, len(e.Rules), i)
			}
		}
	}
	p, _ := impl.Learn(calls, knobs(199, 199, impl.FormMask))
	for i, e := range p.Entries {
		if len(e.Rules) != 1 {
			t.Errorf("%d rules in entry %d with knobs of one less", len(e.Rules), i)
		}
	}
}

// P10: a split with MaxPerEntry groups of several lists each.
func TestLearnFullSplit(t *testing.T) {
	var calls []impl.Call
	var rules []impl.Rule
	for v := range uint64(impl.MaxSplit) {
		for j := range uint64(5) {
			calls = append(calls, call(9, 3, 1000*v+j, 6, v, 0, 0, 0))
		}
		rules = append(rules, oneRule(rangeCon(1000*v, 1000*v+4), pointCon(6), pointCon(v)))
	}
	n := &numbers{state: 104}
	wantLearned(t, "200 groups", shuffled(n, calls), knobs(200, 200, impl.FormRange), onePolicy(rules...))
}

// Rules for all chapters: the argument is as it was, the answer's lists are new memory and share none.
func TestLearnMemory(t *testing.T) {
	calls := append(oneCalls(values(8, 1), values(8, 2), values(2, 7), values(2, 7), values(5, 6)), call(1, 1, 1, 2, 3, 4, 5, 6), call(0, 7, 6, 5, 4, 3, 2, 1))
	before := copyCalls(calls)
	for _, k := range []impl.Knobs{{}, knobs(4, 0, 0), knobs(0, 3, 0), knobs(3, 2, impl.FormRange)} {
		p, _ := impl.Learn(calls, k)
		kept := copyPolicy(p)
		if !sameCalls(calls, before) {
			t.Errorf("%v: the calls are %v, before %v", k, calls, before)
		}
		again, _ := impl.Learn(calls, k)
		count := wantOwnLists(t, p)
		for i := range p.Entries[:cap(p.Entries)] {
			p.Entries[:cap(p.Entries)][i] = impl.Entry{}
		}
		if !sameCalls(calls, before) || !samePolicy(again, kept) {
			t.Errorf("%v: the answer shares memory", k)
		}
		if count < 3 {
			t.Errorf("%v: %d rules", k, count)
		}
		changed := copyCalls(calls)
		p, _ = impl.Learn(changed, k)
		for _, c := range changed {
			clear(c.Args)
		}
		if !samePolicy(p, kept) {
			t.Errorf("%v: the answer hangs on the calls after Learn has answered", k)
		}
	}
}
