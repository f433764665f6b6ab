package tests

import (
	"testing"

	"loop.example/s0039/impl"
)

// randomLogged are calls of few Archs and Nrs; at each index the values come from a small list, so that both splits and
// exact lists often are possible.
func randomLogged(n *numbers) []impl.Call {
	var pool [6][]uint64
	for i := range pool {
		for range []int{1, 1, 2, 2, 3, 5, 9}[n.below(7)] {
			pool[i] = append(pool[i], randomEdge(n))
		}
		if n.below(3) == 0 {
			for j := range pool[i] {
				pool[i][j] = uint64(n.below(16))
			}
		}
	}
	var out []impl.Call
	for range n.below(25) {
		c := call(uint32(n.below(2)), uint32(n.below(2)), 0, 0, 0, 0, 0, 0)
		for i := range c.Args {
			c.Args[i] = pool[i][n.below(len(pool[i]))]
		}
		out = append(out, c)
	}
	return out
}

func randomKnobs(n *numbers) impl.Knobs {
	return knobs([]int{0, 1, 2, 4, 8, 200}[n.below(6)], []int{0, 1, 2, 3, 4, 8, 200}[n.below(7)], n.below(3))
}

// P10: the answer is the one that the document's words give.
func TestLearnRandom(t *testing.T) {
	n := &numbers{state: 105}
	ref := refLearner{newRef()}
	several := 0
	for range 6000 {
		calls, k := randomLogged(n), randomKnobs(n)
		want := ref.learn(calls, k)
		got, code := impl.Learn(calls, k)
		if code != impl.CodeOK || !samePolicy(got, want) {
			t.Fatalf("Learn(%x, %v) is %x and %d, want %x", calls, k, got, code, want)
		}
		for _, e := range got.Entries {
			if len(e.Rules) > 1 && len(e.Rules) > k.Exact {
				several++
			}
		}
	}
	if several < 1000 {
		t.Errorf("only %d entries were split", several)
	}
}

// ofEntry are the calls with the Arch and Nr of the entry.
func ofEntry(calls []impl.Call, e impl.Entry) []impl.Call {
	var out []impl.Call
	for _, c := range calls {
		if c.Arch == e.Arch && c.Nr == e.Nr {
			out = append(out, c)
		}
	}
	return out
}

// checkLearned holds a policy against what is promised of every learned one.
func checkLearned(t *testing.T, ref refLearner, calls []impl.Call, p impl.Policy) {
	t.Helper()
	if !impl.ValidPolicy(p) {
		t.Fatalf("the policy %x of %x is not valid", p, calls)
	}
	for _, c := range calls {
		if !impl.Allows(p, c) {
			t.Fatalf("%x does not allow %x", p, c)
		}
	}
	for _, e := range p.Entries {
		logged := ofEntry(calls, e)
		if len(logged) == 0 {
			t.Fatalf("Arch %d and Nr %d are not logged together", e.Arch, e.Nr)
		}
		for i := range 6 {
			list := argsAt(logged, i)
			for _, r := range e.Rules {
				if !ref.conWithin(r.Cons[i], refMaskCover(list)) && !ref.conWithin(r.Cons[i], refRangeCover(list)) {
					t.Fatalf("index %d of %x: neither the mask nor the range of %x", i, r, list)
				}
			}
		}
	}
}

// P10: what it promises of all valid knobs and calls.
func TestLearnPromises(t *testing.T) {
	n := &numbers{state: 106}
	ref := refLearner{newRef()}
	for range 2000 {
		calls, k := randomLogged(n), randomKnobs(n)
		p, code := impl.Learn(calls, k)
		if code != impl.CodeOK {
			t.Fatalf("Learn(%x, %v): code %d", calls, k, code)
		}
		checkLearned(t, ref, calls, p)
		more := append(shuffled(n, calls), calls...)
		wantLearned(t, "twice and in another order", more, k, p)
	}
}

// callNear is one of the calls with another argument, and at times with another Nr.
func callNear(n *numbers, calls []impl.Call) impl.Call {
	c := copyCalls(calls)[n.below(len(calls))]
	i := n.below(6)
	c.Args[i] = calls[n.below(len(calls))].Args[i] + uint64(n.below(5)) - 2
	c.Nr += uint32(n.below(6) / 5)
	return c
}

// isCovered says whether the Arch and Nr are logged together, and each argument lies within what is logged at its index.
func isCovered(calls []impl.Call, c impl.Call) bool {
	logged := ofEntry(calls, entry(c.Arch, c.Nr))
	if len(logged) == 0 {
		return false
	}
	for i, v := range c.Args {
		list := argsAt(logged, i)
		if !conHolds(refMaskCover(list), v) && !conHolds(refRangeCover(list), v) {
			return false
		}
	}
	return true
}

// P10: calls beside the logged ones are allowed within the stated bounds alone.
func TestLearnAllowsNoOther(t *testing.T) {
	n := &numbers{state: 107}
	allowed := 0
	for range 1000 {
		calls, k := randomLogged(n), randomKnobs(n)
		p, _ := impl.Learn(calls, k)
		for range 20 {
			if len(calls) == 0 {
				break
			}
			c := callNear(n, calls)
			if !impl.Allows(p, c) {
				continue
			}
			allowed++
			if !isCovered(calls, c) {
				t.Fatalf("%x allows %x, which %x do not cover", p, c, calls)
			}
		}
	}
	if allowed < 2000 {
		t.Errorf("only %d of the calls were allowed", allowed)
	}
}
