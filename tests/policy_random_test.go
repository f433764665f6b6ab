package tests

import (
	"slices"
	"testing"

	"loop.example/s0039/impl"
)

// smallCon is one of few conditions, over numbers of three bits that lie at the place at.
func smallCon(n *numbers, at int) impl.Con {
	a, b := uint64(n.below(8))<<at, uint64(n.below(8))<<at
	below := uint64(1)<<at - 1
	switch n.below(12) {
	case 0:
		return anyCon()
	case 1, 2, 3:
		return pointCon(a)
	case 4, 5:
		return maskCon(a, a&b)
	case 6:
		return maskCon(onesFrom(at)-a, b&^a)
	case 7:
		return rangeCon(allOnes64-max(a, b), allOnes64-min(a, b))
	case 8:
		return rangeCon(a, allOnes64)
	}
	return rangeCon(min(a, b), max(a, b)|below)
}

// randomRules are rules over one kind of conditions; most of their indexes hold the same condition in all of them, so
// that many join and many lie within others.
func randomRules(n *numbers) []impl.Rule {
	at := []int{0, 0, 0, 31, 61}[n.below(5)]
	common := ruleWith()
	for i := range common.Cons {
		common.Cons[i] = smallCon(n, at)
	}
	var varied []int
	for range 1 + n.below(3) {
		varied = append(varied, n.below(6))
	}
	var out []impl.Rule
	for range 1 + n.below(9) {
		r := impl.Rule{Cons: slices.Clone(common.Cons)}
		for _, i := range varied {
			r.Cons[i] = smallCon(n, at)
		}
		out = append(out, r)
	}
	return out
}

// randomArgs are arguments at or beside the edges of the rules' conditions, so that some rule often holds.
func randomArgs(n *numbers, rules []impl.Rule) []uint64 {
	near := rules[n.below(len(rules))]
	out := make([]uint64, 6)
	for i, c := range near.Cons {
		out[i] = []uint64{c.A, c.B, c.B, c.B}[n.below(4)]
		if c.Kind == impl.ConMask {
			out[i] = c.B | (uint64(n.next())<<32|uint64(n.next()))&^c.A
		}
		if n.below(12) == 0 {
			out[i] += uint64(n.below(3)) - 1
		}
	}
	return out
}

// P8: the answer is the one that the document's steps give.
func TestMinimiseRandom(t *testing.T) {
	n := &numbers{state: 74}
	ref := newRef()
	shorter := 0
	for range 20000 {
		rules := randomRules(n)
		want := ref.rules(rules)
		if len(want) < len(rules) {
			shorter++
		}
		got := impl.Minimise(onePolicy(rules...))
		if !samePolicy(got, onePolicy(want...)) {
			t.Fatalf("Minimise of %v is %v, want %v", rules, got, want)
		}
	}
	if shorter < 5000 {
		t.Errorf("only %d of the policies became shorter", shorter)
	}
}

// P8: what it promises of every valid policy.
func TestMinimisePromises(t *testing.T) {
	n := &numbers{state: 75}
	ref := newRef()
	for range 3000 {
		rules := randomRules(n)
		small := impl.Minimise(onePolicy(rules...))
		if !impl.ValidPolicy(small) || len(small.Entries) != 1 {
			t.Fatalf("Minimise of %v is %v", rules, small)
		}
		left := small.Entries[0].Rules
		if len(left) > len(rules) {
			t.Fatalf("%d rules of %d", len(left), len(rules))
		}
		for i, a := range left {
			for j, b := range left {
				if i != j && ref.ruleWithin(a, b) {
					t.Fatalf("%v is within %v", a, b)
				}
				if _, ok := ref.join(a, b); ok {
					t.Fatalf("%v and %v join", a, b)
				}
			}
		}
		for range 20 {
			args := randomArgs(n, append(copyRules(rules), left...))
			if c := call(9, 3, args...); impl.Allows(small, c) != rulesHold(rules, args) {
				t.Fatalf("%v: %v and %v do not allow the same", c, rules, small)
			}
		}
		if again := impl.Minimise(small); !samePolicy(again, small) {
			t.Fatalf("done again: %v, first %v", again, small)
		}
		if other := impl.Minimise(onePolicy(shuffled(n, rules)...)); !samePolicy(other, small) {
			t.Fatalf("in another order: %v, first %v", other, small)
		}
	}
}
