package tests

import (
	"testing"

	"loop.example/s0039/impl"
)

func wantAllows(t *testing.T, name string, p impl.Policy, c impl.Call, want bool) {
	t.Helper()
	if got := impl.Allows(p, c); got != want {
		t.Errorf("%s: Allows of %v is %v, want %v", name, c, got, want)
	}
}

// Chapter 3.2: the entry with the call's Arch and Nr decides alone.
func TestAllowsEntry(t *testing.T) {
	p := policy(entry(1, 7, ruleWith(pointCon(17))), entry(2, 5, ruleWith(pointCon(25))), entry(2, 7, ruleWith(pointCon(27))), entry(3, 5, ruleWith(pointCon(35))))
	for arch := range uint32(5) {
		for nr := range uint32(9) {
			for _, v := range []uint64{0, 17, 25, 27, 35} {
				known := arch == 1 && nr == 7 || arch == 2 && (nr == 5 || nr == 7) || arch == 3 && nr == 5
				wantAllows(t, "entries", p, call(arch, nr, v, 0, 0, 0, 0, 0), known && v == uint64(10*arch+nr))
			}
		}
	}
	wantAllows(t, "no entry", impl.Policy{}, zeroCall(), false)
	wantAllows(t, "Arch and Nr the other way round", onePolicy(ruleWith()), call(3, 9, 0, 0, 0, 0, 0, 0), false)
	wantAllows(t, "greatest Arch and Nr", policy(entry(allOnes, allOnes, ruleWith())), call(allOnes, allOnes, 0, 0, 0, 0, 0, 0), true)
}

// Chapter 3.2: each of the six conditions is asked of the argument of its own index.
func TestAllowsEachArgument(t *testing.T) {
	p := onePolicy(ruleWith(pointCon(1), rangeCon(2, 2), maskCon(7, 3), rangeCon(4, 9), rangeCon(0, 5), maskCon(allOnes64-1, 6)))
	wantAllows(t, "all hold", p, call(9, 3, 1, 2, 3, 4, 5, 6), true)
	for i := range 6 {
		c := call(9, 3, 1, 2, 3, 4, 5, 6)
		c.Args[i] = 50
		wantAllows(t, "one fails", p, c, false)
	}
}

// Chapter 3.2: every kind of condition, at every index, at the edges of its set.
func TestAllowsEdges(t *testing.T) {
	for i := range 6 {
		for _, c := range []struct {
			con impl.Con
			yes []uint64
			no  []uint64
		}{
			{anyCon(), edgeNumbers, nil},
			{maskCon(0, 0), edgeNumbers, nil},
			{rangeCon(0, allOnes64), edgeNumbers, nil},
			{rangeCon(10, 20), []uint64{10, 15, 20}, []uint64{0, 9, 21, 1<<32 + 15, allOnes64}},
			{rangeCon(8, 15), []uint64{8, 11, 15}, []uint64{7, 16, 1<<63 + 8}},
			{rangeCon(5, 5), []uint64{5}, []uint64{4, 6}},
			{rangeCon(1<<32-1, 1<<32), []uint64{1<<32 - 1, 1 << 32}, []uint64{1<<32 - 2, 1<<32 + 1, 0}},
			{rangeCon(3, allOnes64), []uint64{3, 1 << 63, allOnes64}, []uint64{0, 2}},
			{rangeCon(0, allOnes64-1), []uint64{0, allOnes64 - 1}, []uint64{allOnes64}},
			{maskCon(0xf0, 0x30), []uint64{0x30, 0x3f, 0xf30, 1<<63 + 0x35}, []uint64{0, 0x20, 0x70, 0xb0, 0x1f}},
			{maskCon(1<<63, 1<<63), []uint64{1 << 63, allOnes64}, []uint64{0, 1<<63 - 1}},
			{pointCon(7), []uint64{7}, []uint64{0, 6, 8, 7 + 1<<32, allOnes64}},
			{pointCon(allOnes64), []uint64{allOnes64}, []uint64{allOnes64 - 1, 1<<63 - 1, 0}},
		} {
			p := onePolicy(ruleAt(i, c.con))
			for _, v := range c.yes {
				wantAllows(t, "within", p, withArg(i, v), true)
			}
			for _, v := range c.no {
				wantAllows(t, "outside", p, withArg(i, v), false)
			}
		}
	}
}

// withArg is a call that onePolicy has an entry for, with the given argument at index i.
func withArg(i int, v uint64) impl.Call {
	c := call(9, 3, 0, 0, 0, 0, 0, 0)
	c.Args[i] = v
	return c
}

// Chapter 3.2: one rule that holds is enough, and it must hold by itself.
func TestAllowsSecondRule(t *testing.T) {
	p := onePolicy(ruleWith(pointCon(1), pointCon(1)), ruleWith(pointCon(2), pointCon(2)), ruleWith(pointCon(3), anyCon(), pointCon(3)))
	wantAllows(t, "first rule", p, call(9, 3, 1, 1, 0, 0, 0, 0), true)
	wantAllows(t, "second rule", p, call(9, 3, 2, 2, 0, 0, 0, 0), true)
	wantAllows(t, "third rule", p, call(9, 3, 3, 9, 3, 0, 0, 0), true)
	wantAllows(t, "a half of each", p, call(9, 3, 1, 2, 3, 0, 0, 0), false)
	wantAllows(t, "another half of each", p, call(9, 3, 2, 1, 3, 0, 0, 0), false)
}

// Chapter 3.2: a call that is not valid is never allowed.
func TestAllowsCallNotValid(t *testing.T) {
	p := onePolicy(ruleWith())
	for n := range 9 {
		wantAllows(t, "number of arguments", p, call(9, 3, make([]uint64, n)...), n == 6)
	}
}

// Chapter 3.2: a policy that is not valid allows nothing, wherever its fault is.
func TestAllowsPolicyNotValid(t *testing.T) {
	good := entry(9, 3, ruleWith())
	c := call(9, 3, 0, 0, 0, 0, 0, 0)
	wantAllows(t, "good", policy(good), c, true)
	for name, p := range map[string]impl.Policy{
		"equal entries":             policy(good, good),
		"falling entries":           policy(good, entry(9, 2, ruleWith())),
		"an entry without rules":    policy(good, entry(9, 4)),
		"too many rules":            policy(good, fullEntry(9, 4, impl.MaxPerEntry+1)),
		"a rule of five conditions": policy(good, entry(9, 4, impl.Rule{Cons: make([]impl.Con, 5)})),
		"no conditions":             onePolicy(impl.Rule{}),
		"seven conditions":          onePolicy(impl.Rule{Cons: make([]impl.Con, 7)}),
		"a broken condition":        policy(good, entry(9, 4, ruleAt(5, rangeCon(2, 1)))),
		"a broken second rule":      onePolicy(ruleWith(), ruleAt(0, maskCon(1, 2))),
	} {
		wantAllows(t, name, p, c, false)
	}
}

// Chapter 3.2, against the document's meaning of a rule.
func TestAllowsRandom(t *testing.T) {
	n := &numbers{state: 73}
	count := [2]int{}
	for range 3000 {
		rules := randomRules(n)
		p := onePolicy(rules...)
		for range 10 {
			args := randomArgs(n, rules)
			want := rulesHold(rules, args)
			if want {
				count[1]++
			} else {
				count[0]++
			}
			wantAllows(t, "random", p, call(9, 3, args...), want)
		}
	}
	if count[0] < 1000 || count[1] < 1000 {
		t.Errorf("allowed and not: %v", count)
	}
}
