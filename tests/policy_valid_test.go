package tests

import (
	"testing"

	"loop.example/s0039/impl"
)

func wantValid(t *testing.T, name string, p impl.Policy, want bool) {
	t.Helper()
	if got := impl.ValidPolicy(p); got != want {
		t.Errorf("%s: ValidPolicy is %v, want %v", name, got, want)
	}
}

// The tables of constants and limits.
func TestPolicyConstants(t *testing.T) {
	kinds := [3]int{impl.ConAny, impl.ConMask, impl.ConRange}
	if kinds != [3]int{0, 1, 2} {
		t.Errorf("kinds %v", kinds)
	}
	if impl.MaxRules != 1000 || impl.MaxPerEntry != 200 {
		t.Errorf("MaxRules %d, MaxPerEntry %d", impl.MaxRules, impl.MaxPerEntry)
	}
}

// Chapter 3.2: the order of the entries.
func TestValidPolicyOrder(t *testing.T) {
	one := ruleWith()
	wantValid(t, "no entry", impl.Policy{}, true)
	wantValid(t, "an empty list of entries", policy([]impl.Entry{}...), true)
	wantValid(t, "one entry", policy(entry(0, 0, one)), true)
	wantValid(t, "ascending by Nr", policy(entry(5, 1, one), entry(5, 2, one), entry(5, allOnes, one)), true)
	wantValid(t, "ascending by Arch", policy(entry(1, 9, one), entry(2, 5, one), entry(allOnes, 0, one)), true)
	wantValid(t, "equal entries", policy(entry(5, 1, one), entry(5, 1, one)), false)
	wantValid(t, "equal Arch and Nr with other rules", policy(entry(5, 1, one), entry(5, 1, ruleWith(pointCon(1)))), false)
	wantValid(t, "falling Nr", policy(entry(5, 2, one), entry(5, 1, one)), false)
	wantValid(t, "falling Arch", policy(entry(5, 1, one), entry(4, 2, one)), false)
	wantValid(t, "falling Arch with equal Nr", policy(entry(5, 1, one), entry(4, 1, one)), false)
	wantValid(t, "falling at the end alone", policy(entry(1, 1, one), entry(1, 2, one), entry(2, 1, one), entry(2, 0, one)), false)
	wantValid(t, "equal at the end alone", policy(entry(1, 1, one), entry(1, 2, one), entry(2, 1, one), entry(2, 1, one)), false)
	wantValid(t, "greatest numbers", policy(entry(1<<31-1, allOnes, one), entry(1<<31, 0, one), entry(allOnes, allOnes, one)), true)
}

// Chapter 3.2: the number of rules in an entry.
func TestValidPolicyPerEntry(t *testing.T) {
	for _, c := range []struct {
		rules int
		want  bool
	}{
		{0, false}, {1, true}, {2, true}, {impl.MaxPerEntry - 1, true}, {impl.MaxPerEntry, true}, {impl.MaxPerEntry + 1, false}, {impl.MaxRules, false},
	} {
		wantValid(t, "alone", policy(fullEntry(1, 2, c.rules)), c.want)
		wantValid(t, "behind another", policy(fullEntry(1, 1, 3), fullEntry(1, 2, c.rules)), c.want)
		wantValid(t, "before another", policy(fullEntry(1, 2, c.rules), fullEntry(1, 3, 3)), c.want)
	}
}

// Chapter 3.2: the number of rules in all entries together.
func TestValidPolicyAllRules(t *testing.T) {
	for _, size := range []int{1, 7, 100, impl.MaxPerEntry} {
		var p impl.Policy
		left := impl.MaxRules
		for nr := uint32(0); left > 0; nr++ {
			p.Entries = append(p.Entries, fullEntry(1, nr, min(size, left)))
			left -= min(size, left)
		}
		wantValid(t, "MaxRules rules", p, true)
		more := copyPolicy(p)
		more.Entries = append(more.Entries, fullEntry(2, 0, 1))
		wantValid(t, "MaxRules + 1 rules", more, false)
	}
}

// Chapter 3.2: the number of conditions in a rule.
func TestValidPolicyConditions(t *testing.T) {
	for n := range 9 {
		odd := impl.Rule{Cons: make([]impl.Con, n)}
		wantValid(t, "the only rule", onePolicy(odd), n == 6)
		wantValid(t, "the first rule", onePolicy(odd, ruleWith()), n == 6)
		wantValid(t, "the last rule", onePolicy(ruleWith(), ruleWith(), odd), n == 6)
		wantValid(t, "in the last entry", policy(entry(1, 1, ruleWith()), entry(1, 2, ruleWith(), odd)), n == 6)
	}
}

// Chapter 3.2: one condition that is not valid, at each index.
func TestValidPolicyOneCondition(t *testing.T) {
	good := []impl.Con{anyCon(), maskCon(0, 0), maskCon(3, 2), pointCon(allOnes64), rangeCon(4, 4), rangeCon(8, 15), rangeCon(0, allOnes64), rangeCon(1, 2)}
	for i := range 6 {
		for _, c := range good {
			wantValid(t, "good condition", onePolicy(ruleWith(), ruleAt(i, c)), true)
		}
		for _, c := range brokenCons {
			wantValid(t, "first rule", onePolicy(ruleAt(i, c), ruleWith()), false)
			wantValid(t, "last rule", onePolicy(ruleWith(), ruleAt(i, c)), false)
			wantValid(t, "first entry", policy(entry(1, 1, ruleAt(i, c)), entry(1, 2, ruleWith())), false)
		}
	}
}

// Chapter 3.2: equal rules, and rules within others, are no fault.
func TestValidPolicyEqualRules(t *testing.T) {
	wantValid(t, "equal rules", onePolicy(ruleWith(pointCon(1)), ruleWith(pointCon(1)), ruleWith()), true)
}
