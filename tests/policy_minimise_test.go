package tests

import (
	"slices"
	"testing"

	"loop.example/s0039/impl"
)

// wantJoined asks for the two conditions to join at each index, in either order.
func wantJoined(t *testing.T, a, b, want impl.Con) {
	t.Helper()
	for i := range 6 {
		wantSmall(t, "joined", []impl.Rule{ruleAt(i, a), ruleAt(i, b)}, []impl.Rule{ruleAt(i, want)})
		wantSmall(t, "joined the other way round", []impl.Rule{ruleAt(i, b), ruleAt(i, a)}, []impl.Rule{ruleAt(i, want)})
	}
}

// wantKept asks for two normal conditions, given in ascending order, not to join.
func wantKept(t *testing.T, a, b impl.Con) {
	t.Helper()
	for i := range 6 {
		want := []impl.Rule{ruleAt(i, a), ruleAt(i, b)}
		wantSmall(t, "kept", []impl.Rule{ruleAt(i, a), ruleAt(i, b)}, want)
		wantSmall(t, "kept the other way round", []impl.Rule{ruleAt(i, b), ruleAt(i, a)}, want)
	}
}

// P8: a policy that is not valid gives the zero Policy.
func TestMinimiseNotValid(t *testing.T) {
	good := entry(9, 3, ruleWith(), ruleWith())
	for name, p := range map[string]impl.Policy{
		"equal entries":             policy(good, good),
		"falling entries":           policy(good, entry(9, 2, ruleWith())),
		"an entry without rules":    policy(good, entry(9, 4)),
		"too many in an entry":      policy(good, fullEntry(9, 4, impl.MaxPerEntry+1)),
		"too many equal rules":      policy(entry(9, 4, slices.Repeat([]impl.Rule{ruleWith()}, impl.MaxPerEntry+1)...)),
		"five conditions":           policy(good, entry(9, 4, impl.Rule{Cons: make([]impl.Con, 5)})),
		"seven conditions":          policy(good, entry(9, 4, impl.Rule{Cons: make([]impl.Con, 7)})),
		"a broken condition":        policy(good, entry(9, 4, ruleAt(5, rangeCon(2, 1)))),
		"a broken rule in another":  onePolicy(ruleWith(), ruleAt(0, maskCon(1, 2))),
		"a kind that is not known":  onePolicy(ruleAt(3, impl.Con{Kind: 3})),
		"an any that has a number":  onePolicy(ruleAt(3, impl.Con{A: 1})),
		"one more than all rules":   policy(fullEntry(1, 1, 200), fullEntry(1, 2, 200), fullEntry(1, 3, 200), fullEntry(1, 4, 200), fullEntry(1, 5, 200), fullEntry(1, 6, 1)),
		"a kind that is below zero": onePolicy(ruleAt(3, impl.Con{Kind: -1})),
	} {
		if got := impl.Minimise(p); len(got.Entries) != 0 {
			t.Errorf("%s: %v", name, got)
		}
	}
}

// P8: conditions become normal, of equal rules one is kept, and nothing else changes.
func TestMinimiseFirstStep(t *testing.T) {
	if got := impl.Minimise(impl.Policy{}); len(got.Entries) != 0 {
		t.Errorf("no entry: %v", got)
	}
	one := ruleWith(pointCon(1), anyCon(), rangeCon(3, 9))
	wantSmall(t, "one rule", []impl.Rule{one}, []impl.Rule{one})
	wantSmall(t, "equal rules", []impl.Rule{one, one, one}, []impl.Rule{one})
	wantSmall(t, "forms",
		[]impl.Rule{ruleWith(maskCon(0, 0), rangeCon(0, allOnes64), rangeCon(5, 5), rangeCon(8, 15), rangeCon(8, 14), rangeCon(1<<63, allOnes64))},
		[]impl.Rule{ruleWith(anyCon(), anyCon(), pointCon(5), maskCon(onesFrom(3), 8), rangeCon(8, 14), maskCon(1<<63, 1<<63))})
	wantSmall(t, "equal rules in two forms", rulesOf(rangeCon(8, 11), maskCon(onesFrom(2), 8)), rulesOf(maskCon(onesFrom(2), 8)))
	wantSmall(t, "all v in three forms", rulesOf(rangeCon(0, allOnes64), maskCon(0, 0), anyCon()), rulesOf(anyCon()))
}

// P8: the rules that are left are ascending: by the first index that differs, there by Kind, then A, then B.
func TestMinimiseOrder(t *testing.T) {
	want := []impl.Rule{
		ruleWith(anyCon(), pointCon(1), rangeCon(20, 30)),
		ruleWith(anyCon(), pointCon(1), rangeCon(40, 50)),
		ruleWith(anyCon(), rangeCon(10, 12)),
		ruleWith(anyCon(), rangeCon(20, 22)),
		ruleWith(maskCon(0xf0, 0x10), pointCon(100)),
		ruleWith(maskCon(0xf0, 0x20), pointCon(50)),
		ruleWith(maskCon(0xff, 0), pointCon(3)),
		ruleWith(rangeCon(1, 5), pointCon(200)),
		ruleWith(rangeCon(1, 6), pointCon(100)),
		ruleWith(rangeCon(2, 4), maskCon(0xf000, 0)),
		ruleWith(rangeCon(2, 4), pointCon(7777), rangeCon(1, 5)),
		ruleWith(rangeCon(1<<63+1, allOnes64), pointCon(400)),
	}
	wantSmall(t, "ascending", want, want)
	given := copyRules(want)
	slices.Reverse(given)
	wantSmall(t, "falling", given, want)
	n := &numbers{state: 76}
	for range 50 {
		wantSmall(t, "shuffled", shuffled(n, want), want)
	}
	last := []impl.Rule{ruleAt(5, maskCon(2, 0)), ruleAt(5, maskCon(4, 4)), ruleAt(5, rangeCon(1, 3)), ruleAt(5, rangeCon(9, 10))}
	given = copyRules(last)
	slices.Reverse(given)
	wantSmall(t, "the last index decides", given, last)
}

// P8: a rule within another is taken out, whichever comes first.
func TestMinimiseWithin(t *testing.T) {
	for i := range 6 {
		for _, inner := range []impl.Con{pointCon(12), rangeCon(10, 12), maskCon(allOnes64-2, 13), rangeCon(10, 20)} {
			a, b := ruleWith(anyCon(), maskCon(1, 1)), ruleWith(anyCon(), maskCon(1, 1))
			a.Cons[i], b.Cons[i] = inner, rangeCon(10, 20)
			a.Cons[(i+1)%6], b.Cons[(i+1)%6] = pointCon(7), maskCon(1, 1)
			wantSmall(t, "within", []impl.Rule{a, b}, []impl.Rule{b})
			wantSmall(t, "within the other way round", []impl.Rule{b, a}, []impl.Rule{b})
		}
	}
	wantSmall(t, "within all v", rulesOf(rangeCon(0, allOnes64-1), anyCon(), maskCon(1, 0), pointCon(5)), rulesOf(anyCon()))
	wantSmall(t, "some within each of two", rulesOf(maskCon(7, 3), maskCon(3, 3), pointCon(4), rangeCon(4, 6), pointCon(7)), rulesOf(maskCon(3, 3), rangeCon(4, 6)))
	crossed := []impl.Rule{ruleWith(pointCon(1), rangeCon(1, 9)), ruleWith(rangeCon(1, 9), pointCon(1))}
	wantSmall(t, "each within the other at one index alone", crossed, crossed)
}

// P8: masks with the same A join when their B differ in exactly one bit.
func TestMinimiseJoinMasks(t *testing.T) {
	for _, bit := range []uint64{1 << 1, 1 << 5, 1 << 31, 1 << 32, 1 << 63} {
		wantJoined(t, pointCon(0), pointCon(bit), maskCon(allOnes64-bit, 0))
		wantJoined(t, pointCon(allOnes64-bit), pointCon(allOnes64), maskCon(allOnes64-bit, allOnes64-bit))
		wantJoined(t, maskCon(bit|1, bit|1), maskCon(bit|1, 1), maskCon(1, 1))
		wantJoined(t, maskCon(bit, 0), maskCon(bit, bit), anyCon())
	}
	wantJoined(t, maskCon(1, 0), maskCon(1, 1), anyCon())
	wantJoined(t, maskCon(0xff, 3), maskCon(0xff, 2), maskCon(0xfe, 2))
	wantJoined(t, pointCon(6), pointCon(7), maskCon(onesFrom(1), 6))
	wantJoined(t, maskCon(onesFrom(3), 0), maskCon(onesFrom(3), 16), maskCon(onesFrom(3)-16, 0))
	wantKept(t, maskCon(3, 0), maskCon(3, 3))
	wantKept(t, maskCon(3, 1), maskCon(3, 2))
	wantKept(t, maskCon(0xff, 0), maskCon(0xff, 0x81))
	wantKept(t, pointCon(0), pointCon(3))
	wantKept(t, pointCon(0), pointCon(allOnes64))
	wantKept(t, maskCon(3, 1), maskCon(6, 4))
	wantKept(t, maskCon(1, 0), maskCon(3, 1))
	wantKept(t, maskCon(2, 0), maskCon(4, 0))
}

// P8: ranges join when they overlap or touch.
func TestMinimiseJoinRanges(t *testing.T) {
	wantJoined(t, rangeCon(1, 7), rangeCon(3, 9), rangeCon(1, 9))
	wantJoined(t, rangeCon(1, 4), rangeCon(4, 9), rangeCon(1, 9))
	wantJoined(t, rangeCon(1, 4), rangeCon(5, 9), rangeCon(1, 9))
	wantJoined(t, rangeCon(0, 4), rangeCon(5, 6), rangeCon(0, 6))
	wantJoined(t, rangeCon(0, 4), rangeCon(5, 7), maskCon(onesFrom(3), 0))
	wantJoined(t, rangeCon(1<<32-3, 1<<32-1), rangeCon(1<<32, 1<<32+4), rangeCon(1<<32-3, 1<<32+4))
	wantJoined(t, rangeCon(1<<63+1, 1<<63+9), rangeCon(1<<63+4, allOnes64), rangeCon(1<<63+1, allOnes64))
	wantKept(t, rangeCon(1, 4), rangeCon(6, 9))
	wantKept(t, rangeCon(0, 4), rangeCon(6, 8))
	wantKept(t, rangeCon(1, 4), rangeCon(6, allOnes64))
	wantKept(t, rangeCon(1, 3), rangeCon(1<<63+1, 1<<63+3))
	wantKept(t, rangeCon(1, allOnes64-4), rangeCon(allOnes64-2, allOnes64))
}

// P8: b + 1 is a mathematical integer: it is 2^64 for a range up to all ones.
func TestMinimiseRangesUpToAllOnes(t *testing.T) {
	wantJoined(t, rangeCon(0, 5), rangeCon(6, allOnes64), anyCon())
	wantJoined(t, rangeCon(0, 9), rangeCon(6, allOnes64), anyCon())
	wantJoined(t, rangeCon(0, allOnes64-1), rangeCon(1, allOnes64), anyCon())
	wantJoined(t, rangeCon(1, 10), rangeCon(3, allOnes64), rangeCon(1, allOnes64))
	wantJoined(t, rangeCon(3, allOnes64-1), pointCon(allOnes64), rangeCon(3, allOnes64))
	wantJoined(t, pointCon(0), rangeCon(1, allOnes64), anyCon())
	wantJoined(t, pointCon(0), rangeCon(1, 6), rangeCon(0, 6))
	wantJoined(t, maskCon(1<<63, 1<<63), rangeCon(9, 1<<63-1), rangeCon(9, allOnes64))
	wantJoined(t, maskCon(1<<63, 0), rangeCon(1<<63, allOnes64-1), rangeCon(0, allOnes64-1))
	wantJoined(t, maskCon(1<<63, 0), maskCon(1<<63, 1<<63), anyCon())
	wantKept(t, rangeCon(0, 5), rangeCon(7, allOnes64))
	wantKept(t, rangeCon(0, 2), rangeCon(allOnes64-2, allOnes64))
	wantKept(t, pointCon(0), rangeCon(allOnes64-2, allOnes64))
	wantKept(t, pointCon(allOnes64), rangeCon(0, 2))
	wantKept(t, pointCon(allOnes64), rangeCon(3, allOnes64-2))
}

// P8: a mask whose set is a range joins as a range; one whose set has gaps does not, wherever its bounds lie.
func TestMinimiseMaskBesideRange(t *testing.T) {
	wantJoined(t, maskCon(onesFrom(2), 8), rangeCon(12, 14), rangeCon(8, 14))
	wantJoined(t, maskCon(onesFrom(2), 8), rangeCon(5, 7), rangeCon(5, 11))
	wantJoined(t, maskCon(onesFrom(2), 8), rangeCon(9, 13), rangeCon(8, 13))
	wantJoined(t, pointCon(15), rangeCon(8, 14), maskCon(onesFrom(3), 8))
	wantJoined(t, pointCon(1), pointCon(2), rangeCon(1, 2))
	wantJoined(t, pointCon(7), pointCon(8), rangeCon(7, 8))
	wantJoined(t, pointCon(12), maskCon(onesFrom(2), 8), rangeCon(8, 12))
	wantJoined(t, maskCon(onesFrom(1), 2), maskCon(onesFrom(2), 4), rangeCon(2, 7))
	wantJoined(t, maskCon(onesFrom(2), 4), maskCon(onesFrom(2), 8), rangeCon(4, 11))
	wantJoined(t, maskCon(onesFrom(33), 0), maskCon(onesFrom(33), 1<<33), maskCon(onesFrom(34), 0))
	wantKept(t, maskCon(onesFrom(2), 8), rangeCon(13, 14))
	wantKept(t, maskCon(onesFrom(2), 8), rangeCon(5, 6))
	wantKept(t, maskCon(allOnes64-2, 0), pointCon(1))
	wantKept(t, maskCon(allOnes64-2, 0), pointCon(3))
	wantKept(t, maskCon(allOnes64-2, 4), rangeCon(1, 3))
	wantKept(t, maskCon(allOnes64-2, 4), rangeCon(7, 9))
	wantKept(t, maskCon(allOnes64-2, 4), rangeCon(5, 7))
	wantKept(t, maskCon(1, 0), rangeCon(1, 3))
	wantKept(t, maskCon(allOnes64>>1, 0), rangeCon(1, 5))
}

// P8: rules that differ at two indexes do not join.
func TestMinimiseTwoIndexes(t *testing.T) {
	for i := range 6 {
		for j := range i {
			a, b := ruleWith(), ruleWith()
			a.Cons[i], b.Cons[i] = pointCon(4), pointCon(5)
			a.Cons[j], b.Cons[j] = pointCon(6), pointCon(7)
			wantSmall(t, "two indexes", []impl.Rule{b, a}, []impl.Rule{a, b})
			b.Cons[j] = a.Cons[j]
			joined := impl.Rule{Cons: slices.Clone(a.Cons)}
			joined.Cons[i] = maskCon(onesFrom(1), 4)
			wantSmall(t, "one index", []impl.Rule{b, a}, []impl.Rule{joined})
		}
	}
	same := ruleWith(pointCon(1), rangeCon(1, 9), maskCon(2, 2), pointCon(8), rangeCon(4, 7), pointCon(allOnes64))
	other := impl.Rule{Cons: slices.Clone(same.Cons)}
	other.Cons[3] = pointCon(9)
	want := ruleWith(pointCon(1), rangeCon(1, 9), maskCon(2, 2), maskCon(onesFrom(1), 8), maskCon(onesFrom(2), 4), pointCon(allOnes64))
	wantSmall(t, "the common conditions stay", []impl.Rule{same, other}, []impl.Rule{want})
}

// P8: a join may bring another rule within the joined one.
func TestMinimiseJoinThenWithin(t *testing.T) {
	wantSmall(t, "a mask within two ranges", rulesOf(rangeCon(6, 9), maskCon(allOnes64-2, 4), rangeCon(1, 5)), rulesOf(rangeCon(1, 9)))
	wantSmall(t, "another index",
		[]impl.Rule{ruleWith(rangeCon(4, 6), pointCon(8)), ruleWith(rangeCon(1, 5)), ruleWith(rangeCon(6, 9))},
		[]impl.Rule{ruleWith(rangeCon(1, 9))})
	wantSmall(t, "all v",
		[]impl.Rule{ruleWith(maskCon(1, 0)), ruleWith(anyCon(), pointCon(5)), ruleWith(maskCon(1, 1))},
		[]impl.Rule{ruleWith()})
}

// P8: a join may make a further one possible.
func TestMinimiseJoinThenJoin(t *testing.T) {
	wantSmall(t, "four numbers", rulesOf(pointCon(3), pointCon(0), pointCon(2), pointCon(1)), rulesOf(maskCon(onesFrom(2), 0)))
	wantSmall(t, "a number that fills a gap", rulesOf(rangeCon(6, 9), rangeCon(1, 4), pointCon(5)), rulesOf(rangeCon(1, 9)))
	square := []impl.Rule{
		ruleWith(pointCon(0), pointCon(0)), ruleWith(pointCon(1), pointCon(0)), ruleWith(pointCon(0), pointCon(1)), ruleWith(pointCon(1), pointCon(1)),
	}
	wantSmall(t, "a square", square, []impl.Rule{ruleWith(maskCon(onesFrom(1), 0), maskCon(onesFrom(1), 0))})
	wantSmall(t, "three corners", square[:3], []impl.Rule{ruleWith(pointCon(0), maskCon(onesFrom(1), 0)), ruleWith(pointCon(1), pointCon(0))})
	var cube []impl.Rule
	for i := range uint64(64) {
		r := ruleWith()
		for j := range r.Cons {
			r.Cons[j] = maskCon(1<<40, i>>j&1<<40)
		}
		cube = append(cube, r)
	}
	wantSmall(t, "a cube of all indexes", cube, []impl.Rule{ruleWith()})
}

// P8: of all pairs that join the first is taken, and the joined rule stands at the first of the two.
func TestMinimiseWhichPair(t *testing.T) {
	wantSmall(t, "the smallest j", rulesOf(pointCon(0), pointCon(2), pointCon(4)), rulesOf(maskCon(allOnes64-2, 0), pointCon(4)))
	wantSmall(t, "the smallest i", rulesOf(pointCon(2), pointCon(4), pointCon(6)), rulesOf(maskCon(allOnes64-4, 2), pointCon(4)))
	wantSmall(t, "the joined rule stays at i", rulesOf(pointCon(4), pointCon(9), pointCon(11), rangeCon(5, 8)), rulesOf(pointCon(11), rangeCon(4, 9)))
	wantSmall(t, "no sorting between the steps", rulesOf(pointCon(1), pointCon(2), pointCon(3), pointCon(7)), rulesOf(pointCon(7), rangeCon(1, 3)))
	wantSmall(t, "a rule within another goes before a join", rulesOf(pointCon(0), pointCon(2), maskCon(allOnes64-4, 2)), rulesOf(maskCon(allOnes64-4, 2), pointCon(0)))
	wantSmall(t, "sorting comes before the steps", rulesOf(pointCon(4), pointCon(2), pointCon(0)), rulesOf(maskCon(allOnes64-2, 0), pointCon(4)))
	wantSmall(t, "normal conditions are sorted, not the given ones",
		rulesOf(rangeCon(0, 0), rangeCon(4, 4), pointCon(2)), rulesOf(maskCon(allOnes64-2, 0), pointCon(4)))
	wantSmall(t, "at which index they join",
		[]impl.Rule{ruleWith(pointCon(1), pointCon(0)), ruleWith(pointCon(0), pointCon(0)), ruleWith(pointCon(0), pointCon(1))},
		[]impl.Rule{ruleWith(pointCon(0), maskCon(onesFrom(1), 0)), ruleWith(pointCon(1), pointCon(0))})
}

// P8: each entry is made small by itself.
func TestMinimiseEntries(t *testing.T) {
	p := policy(
		entry(1, 5, rulesOf(pointCon(1), pointCon(0))...),
		entry(1, 6, rulesOf(pointCon(2))...),
		entry(2, 5, rulesOf(pointCon(3))...),
		entry(2, 6, rulesOf(rangeCon(1, 4), pointCon(1), rangeCon(5, 9))...),
		entry(allOnes, allOnes, rulesOf(anyCon(), anyCon())...),
	)
	want := policy(
		entry(1, 5, rulesOf(maskCon(onesFrom(1), 0))...),
		entry(1, 6, rulesOf(pointCon(2))...),
		entry(2, 5, rulesOf(pointCon(3))...),
		entry(2, 6, rulesOf(rangeCon(1, 9))...),
		entry(allOnes, allOnes, rulesOf(anyCon())...),
	)
	if got := impl.Minimise(p); !samePolicy(got, want) {
		t.Errorf("got %v, want %v", got, want)
	}
}

// P8: policies of as many rules as there may be.
func TestMinimiseLargest(t *testing.T) {
	var p, want impl.Policy
	for nr := range uint32(5) {
		e, small := entry(7, nr), entry(7, nr)
		for i := range uint64(200) {
			e.Rules = append(e.Rules, ruleWith(pointCon(i*uint64(nr+1))))
		}
		switch nr {
		case 0:
			small.Rules = rulesOf(rangeCon(0, 199))
		default:
			small.Rules = newRef().rules(e.Rules)
		}
		p.Entries = append(p.Entries, e)
		want.Entries = append(want.Entries, small)
	}
	if got := impl.Minimise(p); !samePolicy(got, want) {
		t.Errorf("got %v, want %v", got, want)
	}
}

// Rules for all chapters: no function of the chapter writes into its argument.
func TestPolicyArgumentsStay(t *testing.T) {
	p := policy(
		entry(1, 5, rulesOf(rangeCon(5, 5), pointCon(0), rangeCon(4, 4), pointCon(9), rangeCon(0, 3))...),
		entry(2, 6, rulesOf(rangeCon(5, 9), pointCon(1), rangeCon(1, 4))...),
	)
	before := copyPolicy(p)
	c := call(1, 5, 3, 1, 2, 3, 4, 5)
	impl.Minimise(p)
	impl.ValidPolicy(p)
	impl.Allows(p, c)
	if !samePolicy(p, before) {
		t.Errorf("the policy became %v", p)
	}
	if !sameCalls([]impl.Call{c}, []impl.Call{call(1, 5, 3, 1, 2, 3, 4, 5)}) {
		t.Errorf("the call became %v", c)
	}
}

// Rules for all chapters: the answer's lists are new memory and share none, up to their capacity.
func TestMinimiseNewMemory(t *testing.T) {
	p := policy(
		entry(1, 5, rulesOf(pointCon(5), pointCon(50), rangeCon(500, 600))...),
		entry(2, 6, rulesOf(pointCon(5), pointCon(6), rangeCon(500, 600))...),
		entry(2, 7, ruleWith()),
	)
	before := copyPolicy(p)
	small := impl.Minimise(p)
	count := wantOwnLists(t, small)
	if count != 6 {
		t.Errorf("%d rules", count)
	}
	if !samePolicy(p, before) {
		t.Errorf("the answer shares memory with the argument")
	}
}
