package tests

import (
	"slices"
	"testing"

	"loop.example/s0039/impl"
)

func anyCon() impl.Con {
	return impl.Con{Kind: impl.ConAny}
}

func maskCon(mask, value uint64) impl.Con {
	return impl.Con{Kind: impl.ConMask, A: mask, B: value}
}

// onesFrom has ones in the bits from k up.
func onesFrom(k int) uint64 {
	return ^uint64(0) << k
}

func pointCon(v uint64) impl.Con {
	return maskCon(allOnes64, v)
}

func rangeCon(low, high uint64) impl.Con {
	return impl.Con{Kind: impl.ConRange, A: low, B: high}
}

// brokenCons are conditions that are not valid.
var brokenCons = []impl.Con{
	{Kind: impl.ConAny, A: 1},
	{Kind: impl.ConAny, B: 1},
	{Kind: impl.ConAny, A: allOnes64, B: allOnes64},
	{Kind: impl.ConMask, A: 0, B: 1},
	{Kind: impl.ConMask, A: 1, B: 2},
	{Kind: impl.ConMask, A: 1, B: 3},
	{Kind: impl.ConMask, A: allOnes64 >> 1, B: 1 << 63},
	{Kind: impl.ConMask, A: allOnes64 - 1, B: allOnes64},
	{Kind: impl.ConRange, A: 1, B: 0},
	{Kind: impl.ConRange, A: 5, B: 4},
	{Kind: impl.ConRange, A: allOnes64, B: allOnes64 - 1},
	{Kind: impl.ConRange, A: allOnes64, B: 0},
	{Kind: -1},
	{Kind: 3},
	{Kind: 3, A: 1, B: 1},
	{Kind: -1, A: 2, B: 7},
	{Kind: 1 << 40, A: 0, B: 9},
}

// ruleWith has the given conditions first and ConAny behind them.
func ruleWith(cons ...impl.Con) impl.Rule {
	out := impl.Rule{Cons: make([]impl.Con, 6)}
	copy(out.Cons, cons)
	return out
}

// ruleAt has the given condition at index i and ConAny elsewhere.
func ruleAt(i int, c impl.Con) impl.Rule {
	out := ruleWith()
	out.Cons[i] = c
	return out
}

// rulesOf are rules that ask the argument 0 alone.
func rulesOf(cons ...impl.Con) []impl.Rule {
	var out []impl.Rule
	for _, c := range cons {
		out = append(out, ruleWith(c))
	}
	return out
}

func entry(arch, nr uint32, rules ...impl.Rule) impl.Entry {
	return impl.Entry{Arch: arch, Nr: nr, Rules: rules}
}

// fullEntry has n rules, no two of which are equal.
func fullEntry(arch, nr uint32, n int) impl.Entry {
	out := entry(arch, nr)
	for i := range n {
		out.Rules = append(out.Rules, ruleWith(pointCon(uint64(3*i))))
	}
	return out
}

func policy(entries ...impl.Entry) impl.Policy {
	return impl.Policy{Entries: entries}
}

func onePolicy(rules ...impl.Rule) impl.Policy {
	return policy(entry(9, 3, rules...))
}

func copyRules(rules []impl.Rule) []impl.Rule {
	out := make([]impl.Rule, len(rules))
	for i, r := range rules {
		out[i].Cons = slices.Clone(r.Cons)
	}
	return out
}

func copyPolicy(p impl.Policy) impl.Policy {
	var out impl.Policy
	for _, e := range p.Entries {
		out.Entries = append(out.Entries, entry(e.Arch, e.Nr, copyRules(e.Rules)...))
	}
	return out
}

func sameRules(a, b []impl.Rule) bool {
	return slices.EqualFunc(a, b, func(x, y impl.Rule) bool { return slices.Equal(x.Cons, y.Cons) })
}

func samePolicy(a, b impl.Policy) bool {
	return slices.EqualFunc(a.Entries, b.Entries, func(x, y impl.Entry) bool {
		return x.Arch == y.Arch && x.Nr == y.Nr && sameRules(x.Rules, y.Rules)
	})
}

// conHolds is the document's meaning of a valid condition.
func conHolds(c impl.Con, v uint64) bool {
	switch c.Kind {
	case impl.ConAny:
		return true
	case impl.ConMask:
		return v&c.A == c.B
	}
	return c.A <= v && v <= c.B
}

func rulesHold(rules []impl.Rule, args []uint64) bool {
	for _, r := range rules {
		all := true
		for i, c := range r.Cons {
			all = all && conHolds(c, args[i])
		}
		if all {
			return true
		}
	}
	return false
}

// A number is read bit by bit from the highest; place says how it stands to a condition so far.
type place int

const (
	outside place = iota // the condition does not hold, whatever comes
	inside               // no bound of a range can be broken any more
	atLow                // the same bits as the lower bound
	atHigh               // the same bits as the upper bound
	atBoth               // the same bits as both
	places
)

func startOf(c impl.Con) place {
	if c.Kind == impl.ConRange {
		return atBoth
	}
	return inside
}

// after is the place once the number's bit at index i is read.
func after(p place, c impl.Con, i int, bit uint64) place {
	a, b := c.A>>i&1, c.B>>i&1
	if c.Kind == impl.ConMask && a == 1 && b != bit {
		return outside
	}
	low, high := p == atLow || p == atBoth, p == atHigh || p == atBoth
	if p == outside || low && bit < a || high && bit > b {
		return outside
	}
	low, high = low && bit == a, high && bit == b
	switch {
	case low && high:
		return atBoth
	case low:
		return atLow
	case high:
		return atHigh
	}
	return inside
}

// setWithin goes through all 2^64 numbers at once, by the places to which their first bits lead for a and for b.
func setWithin(a, b impl.Con) bool {
	var now [places][places]bool
	now[startOf(a)][startOf(b)] = true
	for i := 63; i >= 0; i-- {
		var next [places][places]bool
		for p := range places {
			for q := range places {
				for bit := range uint64(2) {
					if now[p][q] {
						next[after(p, a, i, bit)][after(q, b, i, bit)] = true
					}
				}
			}
		}
		now = next
	}
	for p := inside; p < places; p++ {
		if now[p][outside] {
			return false
		}
	}
	return true
}

func sameSet(a, b impl.Con) bool {
	return setWithin(a, b) && setWithin(b, a)
}

// windowCons are all masks over the bits at..at+width-1 and all ranges that begin and end at a change of these bits.
// The bits below are free, those above are 0 in the ranges, and are asked in one half of the masks.
func windowCons(at, width int) []impl.Con {
	cons := []impl.Con{anyCon()}
	top := uint64(1)<<width - 1
	above := ^(top << at) >> at << at
	below := uint64(1)<<at - 1
	for mask := range top + 1 {
		for value := range top + 1 {
			if value&^mask == 0 {
				cons = append(cons, maskCon(mask<<at, value<<at), maskCon(above|mask<<at, value<<at))
			}
		}
	}
	for low := range top + 1 {
		for high := low; high <= top; high++ {
			cons = append(cons, rangeCon(low<<at, high<<at|below))
		}
	}
	return cons
}

// randomCon is valid; its numbers are often edges, so that two of them often have much to do with each other.
func randomCon(n *numbers) impl.Con {
	a, b := randomEdge(n), randomEdge(n)
	switch n.below(7) {
	case 0:
		return anyCon()
	case 1:
		return pointCon(a)
	case 2, 3:
		return maskCon(a, a&b)
	}
	return rangeCon(min(a, b), max(a, b))
}

// randomEdge is a number near a power of two, or near all ones, or any one.
func randomEdge(n *numbers) uint64 {
	near := uint64(n.below(5)) - 2
	switch n.below(6) {
	case 0:
		return near
	case 1, 2, 3:
		return uint64(1)<<n.below(64) + near
	case 4:
		return ^(uint64(1)<<n.below(64) + near)
	}
	return uint64(n.next())<<32 | uint64(n.next())
}

func wantSmall(t *testing.T, name string, given, want []impl.Rule) {
	t.Helper()
	got := impl.Minimise(onePolicy(given...))
	if !samePolicy(got, onePolicy(want...)) {
		t.Errorf("%s: %v, want %v", name, got, want)
	}
}

// wantOwnLists writes into every list of the policy, up to its capacity, and looks whether another list has it. It
// answers the number of rules that there were.
func wantOwnLists(t *testing.T, p impl.Policy) int {
	t.Helper()
	var lists [][]impl.Con
	for i, e := range p.Entries {
		for _, r := range e.Rules {
			lists = append(lists, r.Cons[:cap(r.Cons)])
		}
		full := e.Rules[:cap(e.Rules)]
		for j := range full {
			full[j] = impl.Rule{Cons: []impl.Con{pointCon(uint64(i))}}
		}
	}
	for i, e := range p.Entries {
		for _, r := range e.Rules {
			if len(r.Cons) != 1 || r.Cons[0].B != uint64(i) {
				t.Errorf("the rules of entry %d are written through another list", i)
			}
		}
	}
	for i, list := range lists {
		for j := range list {
			list[j] = pointCon(uint64(i))
		}
	}
	for i, list := range lists {
		for _, c := range list {
			if c.B != uint64(i) {
				t.Errorf("list %d is written through another list", i)
			}
		}
	}
	return len(lists)
}
