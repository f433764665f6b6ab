package tests

import (
	"fmt"
	"slices"
	"strings"
	"testing"

	"loop.example/s0039/impl"
)

// wantListing asks for the program of the items that the lines tell; semicolons part them.
func wantListing(t *testing.T, name string, p impl.Policy, lines ...string) {
	t.Helper()
	var parts []string
	for _, line := range lines {
		for part := range strings.SplitSeq(line, ";") {
			parts = append(parts, strings.TrimSpace(part))
		}
	}
	wantCompiled(t, name, p, refLayout(itemsOf(parts)))
	wantFilter(t, name, p)
}

// wantTest asks for the items of the one condition at index i.
func wantTest(t *testing.T, i int, c impl.Con, lines ...string) {
	t.Helper()
	all := slices.Concat([]string{"load 4; unless = 9: N; load 0; unless = 3: D"}, lines, []string{"allow; N:; D:; deny"})
	wantListing(t, fmt.Sprintf("%x at index %d", c, i), onePolicy(ruleAt(i, c)), all...)
}

// P12, P13, 5.2: the policy with no entry denies every call.
func TestCompileNoEntry(t *testing.T) {
	for _, p := range []impl.Policy{{}, policy([]impl.Entry{}...)} {
		wantCompiled(t, "no entry", p, program(endK(0x80000000)))
		for _, c := range edgeCalls() {
			wantFiltered(t, filterOf(t, p), p, c)
		}
	}
}

// P12, P13, 5.2: the document's own example, instruction by instruction.
func TestCompileExample(t *testing.T) {
	p := onePolicy(ruleWith(pointCon(5)))
	wantCompiled(t, "the example", p, program(
		byK(0x20, 4), branch(0x15, 9, 0, 7), byK(0x20, 0), branch(0x15, 3, 0, 5), byK(0x20, 20), branch(0x15, 0, 0, 3),
		byK(0x20, 16), branch(0x15, 5, 0, 1), endK(0x7fff0000), endK(0x80000000)))
	wantTest(t, 0, pointCon(5), "load 20; unless = 0: D; load 16; unless = 5: D")
	if count := wantFilter(t, "the example", p); count[0] == 0 || count[1] == 0 {
		t.Errorf("denied and allowed: %v", count)
	}
}

// P12, 5.2: policies that are not valid.
func TestCompileNotValid(t *testing.T) {
	one := ruleWith()
	wrong := []impl.Policy{
		policy(entry(5, 1, one), entry(5, 1, one)), policy(entry(5, 2, one), entry(5, 1, one)), policy(entry(5, 1, one), entry(4, 2, one)),
		policy(entry(1, 1)), policy(entry(1, 1, one), entry(1, 2)), policy(fullEntry(1, 1, impl.MaxPerEntry+1)),
		policy(fullEntry(1, 1, 200), fullEntry(1, 2, 200), fullEntry(1, 3, 200), fullEntry(1, 4, 200), fullEntry(1, 5, 200), entry(1, 6, one)),
		onePolicy(impl.Rule{}), onePolicy(impl.Rule{Cons: make([]impl.Con, 5)}), onePolicy(one, impl.Rule{Cons: make([]impl.Con, 7)}),
	}
	for _, c := range brokenCons {
		wrong = append(wrong, onePolicy(ruleAt(0, c)), onePolicy(one, ruleAt(5, c)))
	}
	for _, p := range wrong {
		wantNotCompiled(t, "not valid", p, impl.CodeBad)
	}
}

// P12, P13, 5.2: one, two, three and more entries under one Arch.
func TestCompileTrees(t *testing.T) {
	at := func(nrs ...uint32) impl.Policy {
		var p impl.Policy
		for _, nr := range nrs {
			p.Entries = append(p.Entries, entry(7, nr, ruleWith()))
		}
		return p
	}
	wantListing(t, "one", at(0), "load 4; unless = 7: N; load 0; unless = 0: D; allow; N:; D:; deny")
	wantListing(t, "two", at(3, 5), "load 4; unless = 7: N; load 0; if >= 5: R; unless = 3: D; allow; R:; unless = 5: D; allow; N:; D:; deny")
	wantListing(t, "three", at(3, 5, 0xffffffff), "load 4; unless = 7: N; load 0; if >= 5: R; unless = 3: D; allow; R:",
		"if >= 0xffffffff: S; unless = 5: D; allow; S:; unless = 0xffffffff: D; allow; N:; D:; deny")
	wantListing(t, "four", at(0, 1, 2, 3), "load 4; unless = 7: N; load 0; if >= 2: R; if >= 1: S; unless = 0: D; allow; S:; unless = 1: D; allow; R:",
		"if >= 3: T; unless = 2: D; allow; T:; unless = 3: D; allow; N:; D:; deny")
	wantListing(t, "five", at(0, 10, 20, 30, 40), "load 4; unless = 7: N; load 0; if >= 20: R; if >= 10: S; unless = 0: D; allow; S:; unless = 10: D; allow; R:",
		"if >= 30: T; unless = 20: D; allow; T:; if >= 40: U; unless = 30: D; allow; U:; unless = 40: D; allow; N:; D:; deny")
	for n := 1; n < 40; n++ {
		var nrs []uint32
		for i := range n {
			nrs = append(nrs, uint32(i)*uint32(i)+uint32(n%2))
		}
		wantLaidOut(t, "a tree", at(nrs...))
		wantFilter(t, "a tree", at(nrs...))
	}
}

// P12, P13, 5.2: several Archs, with numbers that are equal under two of them.
func TestCompileArchs(t *testing.T) {
	p := policy(entry(1, 7, ruleWith(pointCon(5))), entry(2, 7, ruleWith(maskCon(0xff, 6))), entry(2, 9, ruleWith()), entry(allOnes, 2, ruleWith()))
	wantListing(t, "three", p, "load 4; unless = 1: N; load 0; unless = 7: D; load 20; unless = 0: D; load 16; unless = 5: D; allow; N:",
		"unless = 2: M; load 0; if >= 9: R; unless = 7: D; load 16; and 0xff; unless = 6: D; allow; R:; unless = 9: D; allow; M:",
		"unless = 0xffffffff: O; load 0; unless = 2: D; allow; O:; D:; deny")
	for n := 1; n < 12; n++ {
		var many impl.Policy
		for i := range n {
			for j := range 1 + i%4 {
				many.Entries = append(many.Entries, entry(uint32(i)*0x10000001, uint32(5*j), ruleWith(pointCon(uint64(10*i+j)))))
			}
		}
		wantLaidOut(t, "several", many)
		wantFilter(t, "several", many)
	}
	// A number of one Arch is no number of another, be the Arch before or behind.
	gaps := policy(entry(1, 1, ruleWith()), entry(2, 2, ruleWith()), entry(3, 1, ruleWith()), entry(3, 3, ruleWith()))
	prog := filterOf(t, gaps)
	allowed := 0
	for arch := range uint32(6) {
		for nr := range uint32(6) {
			if wantFiltered(t, prog, gaps, call(arch, nr, 1, 2, 3, 4, 5, 6)) {
				allowed++
			}
		}
	}
	if allowed != 4 {
		t.Errorf("%d calls allowed", allowed)
	}
}

// P12, P13, 5.2: several rules in an entry.
func TestCompileRules(t *testing.T) {
	p := onePolicy(ruleWith(maskCon(1, 1)), ruleWith(anyCon(), rangeCon(3, allOnes64)), ruleWith(pointCon(0), maskCon(7, 2)))
	wantListing(t, "three", p, "load 4; unless = 9: N; load 0; unless = 3: D; load 16; and 1; unless = 1: F; allow; F:",
		"load 28; if > 0: P; unless = 0: G; load 24; unless >= 3: G; P:; allow; G:",
		"load 20; unless = 0: D; load 16; unless = 0: D; load 24; and 7; unless = 2: D; allow; N:; D:; deny")
	wantListing(t, "rules that ask nothing", onePolicy(ruleWith(), ruleWith(), ruleWith()), "load 4; unless = 9: N; load 0; unless = 3: D; allow; allow; allow; N:; D:; deny")
	six := onePolicy(ruleWith(pointCon(1), rangeCon(2, 2), maskCon(7, 3), rangeCon(4, 9), rangeCon(0, 5), maskCon(allOnes64-1, 6)), ruleAt(5, pointCon(1)))
	wantLaidOut(t, "all six indexes", six)
	wantFilter(t, "all six indexes", six)
	for n := 1; n <= impl.MaxPerEntry; n += 27 {
		full := policy(fullEntry(1, 2, n), entry(1, 3, ruleWith(pointCon(1))), fullEntry(2, 0, n))
		wantLaidOut(t, "many rules", full)
		if n < 60 {
			wantFilter(t, "many rules", full)
		}
	}
}

// P12, P13, 5.2: ConAny, and other conditions that hold for every number, ask nothing.
func TestCompileAny(t *testing.T) {
	for i := range 6 {
		wantTest(t, i, anyCon())
		wantTest(t, i, maskCon(0, 0))
		wantTest(t, i, rangeCon(0, allOnes64))
	}
}

// P12, P13, 5.2: masks with halves of 0, of all ones and of some bits.
func TestCompileMasks(t *testing.T) {
	for i := range 6 {
		hi, lo := fmt.Sprintf("load %d", 20+8*i), fmt.Sprintf("load %d", 16+8*i)
		wantTest(t, i, maskCon(0xff, 3), lo, "and 0xff; unless = 3: D")
		wantTest(t, i, maskCon(0xff, 0), lo, "and 0xff; unless = 0: D")
		wantTest(t, i, maskCon(0xff00000000, 0x300000000), hi, "and 0xff; unless = 3: D")
		wantTest(t, i, maskCon(0xffffffff, 6), lo, "unless = 6: D")
		wantTest(t, i, maskCon(0xffffffff00000000, 6<<32), hi, "unless = 6: D")
		wantTest(t, i, maskCon(0xffffffff00000000, 0), hi, "unless = 0: D")
		wantTest(t, i, maskCon(0xffffffff00000001, 7<<32), hi, "unless = 7: D", lo, "and 1; unless = 0: D")
		wantTest(t, i, maskCon(0x80000000ffffffff, 1<<63+8), hi, "and 0x80000000; unless = 0x80000000: D", lo, "unless = 8: D")
		wantTest(t, i, maskCon(0xfffffffefffffffe, 0x200000004), hi, "and 0xfffffffe; unless = 2: D", lo, "and 0xfffffffe; unless = 4: D")
		wantTest(t, i, maskCon(1<<32, 1<<32), hi, "and 1; unless = 1: D")
		wantTest(t, i, maskCon(1<<31, 1<<31), lo, "and 0x80000000; unless = 0x80000000: D")
		wantTest(t, i, pointCon(allOnes64), hi, "unless = 0xffffffff: D", lo, "unless = 0xffffffff: D")
		wantTest(t, i, pointCon(0), hi, "unless = 0: D", lo, "unless = 0: D")
	}
}

// P12, P13, 5.2: ranges from 0, up to all ones, and with bounds at the edges of the halves. They stay ranges, even where
// a mask has the same set.
func TestCompileRanges(t *testing.T) {
	for i := range 6 {
		hi, lo := fmt.Sprintf("load %d", 20+8*i), fmt.Sprintf("load %d", 16+8*i)
		from := func(high, low string) string {
			return fmt.Sprintf("%s; if > %s: P; unless = %s: D; %s; unless >= %s: D; P:", hi, high, high, lo, low)
		}
		upTo := func(high, low string) string {
			return fmt.Sprintf("%s; if > %s: D; unless = %s: Q; %s; if > %s: D; Q:", hi, high, high, lo, low)
		}
		wantTest(t, i, rangeCon(0, 7), upTo("0", "7"))
		wantTest(t, i, rangeCon(0, 0), upTo("0", "0"))
		wantTest(t, i, rangeCon(0, allOnes64-1), upTo("0xffffffff", "0xfffffffe"))
		wantTest(t, i, rangeCon(0, allOnes), upTo("0", "0xffffffff"))
		wantTest(t, i, rangeCon(0, 1<<32), upTo("1", "0"))
		wantTest(t, i, rangeCon(1, allOnes64), from("0", "1"))
		wantTest(t, i, rangeCon(allOnes, allOnes64), from("0", "0xffffffff"))
		wantTest(t, i, rangeCon(1<<32, allOnes64), from("1", "0"))
		wantTest(t, i, rangeCon(allOnes64, allOnes64), from("0xffffffff", "0xffffffff"))
		wantTest(t, i, rangeCon(4, 7), from("0", "4"), upTo("0", "7"))
		wantTest(t, i, rangeCon(5, 5), from("0", "5"), upTo("0", "5"))
		wantTest(t, i, rangeCon(0x100000005, 0x100000009), from("1", "5"), upTo("1", "9"))
		wantTest(t, i, rangeCon(0x100000009, 0x200000005), from("1", "9"), upTo("2", "5"))
		wantTest(t, i, rangeCon(allOnes, 1<<32), from("0", "0xffffffff"), upTo("1", "0"))
		wantTest(t, i, rangeCon(1<<32, 3<<32-1), from("1", "0"), upTo("2", "0xffffffff"))
		wantTest(t, i, rangeCon(1<<63-1, 1<<63), from("0x7fffffff", "0xffffffff"), upTo("0x80000000", "0"))
	}
}

// P12, P13: MaxRules entries under one Arch, and one under each of MaxRules Archs.
func TestCompileManyEntries(t *testing.T) {
	var trees, archs impl.Policy
	for i := range uint32(impl.MaxRules) {
		trees.Entries = append(trees.Entries, entry(9, 2*i+1, ruleWith()))
		archs.Entries = append(archs.Entries, entry(2*i+1, 9, ruleWith()))
	}
	for _, p := range []impl.Policy{trees, archs} {
		wantLaidOut(t, "many entries", p)
		if len(refLayout(refCompile(p))) > impl.MaxProgram {
			continue
		}
		prog := filterOf(t, p)
		for i := range uint32(2*impl.MaxRules + 2) {
			wantFiltered(t, prog, p, call(9, i, 1, 2, 3, 4, 5, 6))
			wantFiltered(t, prog, p, call(i, 9, 1, 2, 3, 4, 5, 6))
		}
	}
	if n := len(refLayout(refCompile(trees))); n > impl.MaxProgram {
		t.Errorf("no run was tried: %d instructions", n)
	}
}

// sixPoints takes 25 instructions.
func sixPoints(v uint64) impl.Rule {
	return pointRule(v, v+1, v+2, v+3, v+4, v+5)
}

// sizedPolicy is a policy whose layout has n instructions: 7 about the rules, with both first branches far ones, 25 for
// each rule of six points, and one for each rule that asks nothing.
func sizedPolicy(n int) impl.Policy {
	out := onePolicy()
	for left := n - 7; left > 0; left -= 25 {
		if left >= 25 {
			out.Entries[0].Rules = append(out.Entries[0].Rules, sixPoints(uint64(left)))
			continue
		}
		out.Entries[0].Rules = append(out.Entries[0].Rules, emptyRules(left)...)
	}
	return out
}

// P12, P13: programs of exactly MaxProgram instructions and of one more.
func TestCompileHowManyInstructions(t *testing.T) {
	for n := impl.MaxProgram - 40; n <= impl.MaxProgram; n++ {
		p := sizedPolicy(n)
		want := refLayout(refCompile(p))
		if len(want) != n {
			t.Fatalf("%d instructions, want %d", len(want), n)
		}
		wantCompiled(t, "up to MaxProgram", p, want)
	}
	for n := impl.MaxProgram + 1; n < impl.MaxProgram+60; n++ {
		p := sizedPolicy(n)
		if got := len(refLayout(refCompile(p))); got != n {
			t.Fatalf("%d instructions, want %d", got, n)
		}
		wantNotCompiled(t, "more than MaxProgram", p, impl.CodeTooLarge)
	}
}

// P13: a full program's runs.
func TestCompileFullProgram(t *testing.T) {
	// 163 rules of 25 and one of 14 instructions, with 7 about them.
	var rules []impl.Rule
	for i := range uint64(163) {
		rules = append(rules, sixPoints(100*i))
	}
	rules = append(rules, ruleWith(pointCon(1), pointCon(2), maskCon(allOnes, 3), maskCon(0xff, 4)))
	p := onePolicy(rules...)
	if prog := filterOf(t, p); len(prog) != impl.MaxProgram {
		t.Fatalf("%d instructions", len(prog))
	}
	wantLaidOut(t, "full", p)
	prog := filterOf(t, p)
	for i := range uint64(163) {
		c := call(9, 3, 100*i, 100*i+1, 100*i+2, 100*i+3, 100*i+4, 100*i+5)
		if !wantFiltered(t, prog, p, c) {
			t.Errorf("%v is not allowed", c)
		}
		c.Args[i%6]++
		if wantFiltered(t, prog, p, c) {
			t.Errorf("%v is allowed", c)
		}
	}
	for _, c := range callsBeside(p.Entries[0], rules[163]) {
		wantFiltered(t, prog, p, c)
	}
	p.Entries[0].Rules[163] = ruleWith(pointCon(1), pointCon(2), pointCon(3), maskCon(allOnes, 4))
	wantNotCompiled(t, "one more", p, impl.CodeTooLarge)
}

// emptyRules are n rules that ask nothing.
func emptyRules(n int) []impl.Rule {
	var out []impl.Rule
	for range n {
		out = append(out, ruleWith())
	}
	return out
}

// P12: a program that is too large, or just not, by one branch that is a far one.
func TestCompileFarDecides(t *testing.T) {
	for _, c := range []struct {
		rules, rest, size int
	}{
		// The first branch leads over six instructions and one for each of the rules: 255, and then 256.
		{249, 3840, 4096}, {249, 3841, 4097}, {250, 3838, 4096}, {250, 3839, 4097}, {250, 3840, 4098},
	} {
		p := policy(entry(1, 1, emptyRules(120)...), entry(1, 2, emptyRules(c.rules-120)...), sizedPolicy(c.rest).Entries[0])
		if n := len(refLayout(refCompile(p))); n != c.size {
			t.Fatalf("%v: %d instructions", c, n)
		}
		wantLaidOut(t, "at the limit", p)
	}
}

// P12, 5.2: more items than Assemble takes are no fault of the policy.
func TestCompileManyItems(t *testing.T) {
	wide := rangeCon(1<<32+1, 1<<40)
	rule := ruleWith(wide, wide, wide, wide, wide, wide)
	var p impl.Policy
	for nr := range uint32(5) {
		e := entry(1, nr)
		for range 200 {
			e.Rules = append(e.Rules, rule)
		}
		p.Entries = append(p.Entries, e)
	}
	if n := len(refCompile(p)); n <= impl.MaxItems {
		t.Fatalf("only %d items", n)
	}
	wantNotCompiled(t, "a thousand rules of six ranges", p, impl.CodeTooLarge)
}

// Rules for all chapters: the argument is as it was, and the answer is new memory.
func TestCompileMemory(t *testing.T) {
	p := policy(entry(1, 2, ruleWith(rangeCon(4, 7), maskCon(6, 2)), ruleWith()), entry(1, 5, ruleAt(5, pointCon(1))), fullEntry(2, 1, 60))
	before := copyPolicy(p)
	first, second := filterOf(t, p), filterOf(t, p)
	kept := slices.Clone(second)
	clear(first[:cap(first)])
	if !samePolicy(p, before) {
		t.Errorf("the policy is %v, before %v", p, before)
	}
	for _, e := range p.Entries {
		clear(e.Rules)
	}
	if !slices.Equal(second, kept) {
		t.Error("the answer shares memory with the policy or with another answer")
	}
}
