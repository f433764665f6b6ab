package tests

import (
	"testing"

	"loop.example/s0039/impl"
)

// randomItems have few labels; most of the branches lead to labels that stand later, some lists are not valid. The last
// item is the only one that ends a run.
func randomItems(n *numbers) []impl.Item {
	var out []impl.Item
	block := []int{1, 1, 3, 40, 130}[n.below(5)]
	labels := shuffled(n, []int{-3, 0, 7, 1 << 40, -1 << 63})
	used := 0
	for range 4 + n.below(14) {
		// A branch to a label that is used up stands behind it; this is to be rare.
		target := labels[min(used+n.below(2), len(labels)-1)]
		if n.below(40) == 0 {
			target = labels[n.below(len(labels))]
		}
		code, k := shortCodes[n.below(4)], uint32(n.below(12))
		switch n.below(6) {
		case 0:
			out = append(out, ifItem(code, k, target))
		case 1:
			out = append(out, unlessItem(code, k, target))
		case 2:
			out = append(out, gotoItem(target))
		case 3:
			if used < len(labels) {
				out = append(out, labelItem(labels[used]))
				used++
			}
		default:
			for range n.below(2 * block) {
				out = append(out, insItem(byK([]uint16{0x04, 0x04, 0x04, 0x54, 0x20}[n.below(5)], uint32(4*n.below(4)))))
			}
		}
	}
	for _, l := range labels[used:] {
		if n.below(30) > 0 {
			out = append(out, labelItem(l))
		}
	}
	return append(out, insItem(endA()))
}

// randomRecord has small numbers, about those that the items ask.
func randomRecord(n *numbers) []byte {
	out := make([]byte, impl.RecordSize)
	for i := range 16 {
		out[4*i] = byte(n.below(14))
	}
	return out
}

// P11: every branch leads to its label, by one instruction exactly when its distance is short.
func TestAssembleRandom(t *testing.T) {
	n := &numbers{state: 121}
	good, far := 0, 0
	for range 6000 {
		given := randomItems(n)
		if !refPlaces(given) {
			wantNotAssembled(t, "random", given, impl.CodeBad)
			continue
		}
		good++
		want := refLayout(given)
		wantAssembled(t, "random", given, want...)
		for i, ins := range want[:len(want)-1] {
			if want[i+1].Code == 0x05 && ins.Jt+ins.Jf == 1 && want[i+1].K > 255 {
				far++
			}
		}
		prog, _ := impl.Assemble(given)
		for range 4 {
			rec := randomRecord(n)
			if got, _, code := impl.Run(prog, rec); code != impl.CodeOK || got != runItems(given, rec) {
				t.Fatalf("%v: result %d and code %d, want %d", given, got, code, runItems(given, rec))
			}
		}
	}
	if good < 2000 || good > 5800 || far < 500 {
		t.Errorf("%d lists were valid, %d branches were far", good, far)
	}
}

// randomPolicy has entries under few Archs, with rules of many kinds.
func randomPolicy(n *numbers) impl.Policy {
	var out impl.Policy
	for arch := range uint32(1 + n.below(3)) {
		nr := uint32(n.below(3))
		for range n.below(6) {
			rules := randomRules(n)
			if n.below(3) == 0 {
				rules = append(rules, ruleWith(randomCon(n), randomCon(n), randomCon(n)))
			}
			out.Entries = append(out.Entries, entry(arch*0x7fffffff, nr, rules...))
			nr += 1 + uint32(n.below(2))*n.next()>>4
		}
	}
	return out
}

// P12, P13: the program is the one that the document's words give, and allows what the policy allows.
func TestCompileRandom(t *testing.T) {
	n := &numbers{state: 122}
	count := [2]int{}
	for range 1500 {
		p := randomPolicy(n)
		if !impl.ValidPolicy(p) {
			t.Fatalf("%v is not valid", p)
		}
		wantLaidOut(t, "random", p)
		prog := filterOf(t, p)
		for range 12 {
			if len(p.Entries) == 0 {
				break
			}
			e := p.Entries[n.below(len(p.Entries))]
			c := call(e.Arch, e.Nr, randomArgs(n, e.Rules)...)
			if n.below(5) == 0 {
				c.Nr += uint32(n.below(3)) - 1
			}
			if n.below(8) == 0 {
				c.Arch = p.Entries[n.below(len(p.Entries))].Arch
			}
			if wantFiltered(t, prog, p, c) {
				count[1]++
			} else {
				count[0]++
			}
		}
		if t.Failed() {
			t.Fatalf("the policy %x", p)
		}
	}
	if count[0] < 2000 || count[1] < 2000 {
		t.Errorf("denied and allowed: %v", count)
	}
}

// P13: each argument at every edge of its condition, and of the condition's halves.
func TestCompileRandomEdges(t *testing.T) {
	n := &numbers{state: 123}
	count := [2]int{}
	for range 150 {
		p := policy(entry(n.next(), n.next(), ruleAt(n.below(6), randomCon(n)), ruleWith(randomCon(n), randomCon(n), randomCon(n), randomCon(n), randomCon(n), randomCon(n))))
		got := wantFilter(t, "random", p)
		count[0] += got[0]
		count[1] += got[1]
	}
	if count[0] < 2000 || count[1] < 2000 {
		t.Errorf("denied and allowed: %v", count)
	}
}

// P14, P15, P16: the report is the one that the document's words give.
func TestSynthRandom(t *testing.T) {
	n := &numbers{state: 124}
	ref := refLearner{newRef()}
	smaller := 0
	for range 1500 {
		calls, k := randomLogged(n), randomKnobs(n)
		want := refSynth(ref, calls, k)
		wantReport(t, "random", impl.Synth(loggedCalls(calls), k), want)
		if t.Failed() {
			t.Fatalf("the calls %x with %v", calls, k)
		}
		if want.Rules < want.Learned {
			smaller++
		}
	}
	if smaller < 100 {
		t.Errorf("only %d policies became smaller", smaller)
	}
}

// P15: runs on calls at and beside the logged ones, with several ip.
func TestSynthAllowsNoOther(t *testing.T) {
	n := &numbers{state: 125}
	count := [2]int{}
	for range 400 {
		calls, k := randomLogged(n), randomKnobs(n)
		_, prog := reportOn(t, calls, k)
		for range 20 {
			if len(calls) == 0 {
				break
			}
			c := callNear(n, calls)
			c.Arch += uint32(n.below(9) / 8)
			first, _, _ := impl.Run(prog, impl.MakeRecord(c, 0))
			for _, ip := range someIPs {
				if got, _, code := impl.Run(prog, impl.MakeRecord(c, ip)); got != first || code != impl.CodeOK {
					t.Fatalf("%x with ip %x: result %#x, with ip 0 %#x", c, ip, got, first)
				}
			}
			switch first {
			case impl.RetAllow:
				count[1]++
				if !isCovered(calls, c) {
					t.Fatalf("%v allows %x after %x", k, c, calls)
				}
			case impl.RetDeny:
				count[0]++
			default:
				t.Fatalf("%x: result %#x", c, first)
			}
		}
		for _, c := range calls {
			if got, _, _ := impl.Run(prog, impl.MakeRecord(c, uint64(n.next())<<32)); got != impl.RetAllow {
				t.Fatalf("%v denies %x", k, c)
			}
		}
	}
	if count[0] < 1000 || count[1] < 1000 {
		t.Errorf("denied and allowed: %v", count)
	}
}
