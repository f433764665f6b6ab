package tests

import (
	"slices"
	"testing"

	"loop.example/s0039/impl"
)

// The tables of constants and limits.
func TestFilterConstants(t *testing.T) {
	kinds := [5]int{impl.ItemIns, impl.ItemIf, impl.ItemUnless, impl.ItemGoto, impl.ItemLabel}
	if kinds != [5]int{0, 1, 2, 3, 4} {
		t.Errorf("kinds %v", kinds)
	}
	if impl.MaxItems != 20000 || impl.MaxShort != 255 {
		t.Errorf("MaxItems %d, MaxShort %d", impl.MaxItems, impl.MaxShort)
	}
}

// P11, 5.1: no item, and each kind of item alone.
func TestAssembleFewItems(t *testing.T) {
	wantAssembled(t, "nil", nil)
	wantAssembled(t, "an empty list", []impl.Item{})
	wantAssembled(t, "an instruction", items(insItem(byK(0x06, 7))), byK(0x06, 7))
	wantAssembled(t, "a label", items(labelItem(1)))
	wantNotAssembled(t, "an if", items(ifItem(0x15, 7, 1)), impl.CodeBad)
	wantNotAssembled(t, "an unless", items(unlessItem(0x15, 7, 1)), impl.CodeBad)
	wantNotAssembled(t, "a goto", items(gotoItem(1)), impl.CodeBad)
}

// P11, 5.1: kinds that there are not, with whatever else would be valid.
func TestAssembleKindNotValid(t *testing.T) {
	for _, kind := range append(farNumbers, 6, 255, 256, 1<<32+4) {
		if kind >= 0 && kind <= 4 {
			continue
		}
		for _, code := range []uint16{0x00, 0x05, 0x06, 0x15} {
			odd := impl.Item{Kind: kind, Ins: byK(code, 1), Target: 1}
			wantNotAssembled(t, "alone", items(odd), impl.CodeBad)
			wantNotAssembled(t, "ahead of its label", items(odd, labelItem(1)), impl.CodeBad)
			wantNotAssembled(t, "at the end", items(insItem(endA()), odd), impl.CodeBad)
		}
	}
}

// P11, 5.1: every code there is, as an instruction and as a test.
func TestAssembleEveryCode(t *testing.T) {
	for code := range 1 << 16 {
		c := uint16(code)
		ins := impl.Ins{Code: c, Jt: 3, Jf: 4, K: 0xfedcba98}
		if slices.Contains(tableCodes, c) && c != 0x05 && !slices.Contains(testCodes, c) {
			wantAssembled(t, "instruction", items(insItem(ins)), ins)
		} else {
			wantNotAssembled(t, "instruction", items(insItem(ins)), impl.CodeBad)
		}
		yes := items(ifItem(c, ins.K, 1), insItem(endA()), labelItem(1))
		no := items(unlessItem(c, ins.K, 1), insItem(endA()), labelItem(1))
		if slices.Contains(shortCodes, c) {
			wantAssembled(t, "if", yes, branch(c, ins.K, 1, 0), endA())
			wantAssembled(t, "unless", no, branch(c, ins.K, 0, 1), endA())
		} else {
			wantNotAssembled(t, "if", yes, impl.CodeBad)
			wantNotAssembled(t, "unless", no, impl.CodeBad)
		}
	}
}

// P11, 5.1: the operands of instructions are not looked at, nor how the program ends.
func TestAssembleOperands(t *testing.T) {
	odd := []impl.Ins{
		byK(0x20, 3), byK(0x20, 64), byK(0x60, 16), byK(0x61, allOnes), byK(0x02, 99), byK(0x03, 16), byK(0x34, 0), byK(0x64, 32), byK(0x74, 40),
		{Code: 0x06, Jt: 255, Jf: 255, K: 1}, {Code: 0x87, Jt: 1, Jf: 2, K: 3}, byK(0x00, 0),
	}
	var given []impl.Item
	for _, ins := range odd {
		given = append(given, insItem(ins))
	}
	wantAssembled(t, "operands", given, odd...)
	wantAssembled(t, "a branch to the end", items(gotoItem(1), labelItem(1)), byK(0x05, 0))
}

// P11, 5.1: what each kind of branch makes over short distances.
func TestAssembleShortBranches(t *testing.T) {
	end := insItem(endA())
	for _, code := range shortCodes {
		wantAssembled(t, "just ahead", items(ifItem(code, 7, 1), labelItem(1), end), branch(code, 7, 0, 0), endA())
		wantAssembled(t, "just ahead", items(unlessItem(code, 7, 1), labelItem(1), end), branch(code, 7, 0, 0), endA())
		wantAssembled(t, "over one", items(ifItem(code, allOnes, 1), end, labelItem(1), end), branch(code, allOnes, 1, 0), endA(), endA())
		wantAssembled(t, "over one", items(unlessItem(code, 0, 1), end, labelItem(1), end), branch(code, 0, 0, 1), endA(), endA())
	}
	wantAssembled(t, "just ahead", items(gotoItem(1), labelItem(1), end), byK(0x05, 0), endA())
	wantAssembled(t, "over one", items(gotoItem(1), end, labelItem(1), end), byK(0x05, 1), endA(), endA())
	wantAssembled(t, "over labels alone", items(ifItem(0x15, 7, 3), labelItem(1), labelItem(2), labelItem(3), end), branch(0x15, 7, 0, 0), endA())
	wantAssembled(t, "branches over branches",
		items(ifItem(0x25, 1, 1), unlessItem(0x35, 2, 2), gotoItem(1), ifItem(0x45, 3, 2), end, labelItem(1), end, labelItem(2), end),
		branch(0x25, 1, 4, 0), branch(0x35, 2, 0, 4), byK(0x05, 2), branch(0x45, 3, 2, 0), endA(), endA(), endA())
	wantAssembled(t, "two labels at one place", items(ifItem(0x15, 1, 1), ifItem(0x15, 1, 2), end, labelItem(2), labelItem(1), end),
		branch(0x15, 1, 2, 0), branch(0x15, 1, 1, 0), endA(), endA())
	wantAssembled(t, "labels that nothing leads to", items(labelItem(4), end, labelItem(5), end, labelItem(6)), endA(), endA())
}

// P11, 5.1: distances about MaxShort, and great ones.
func TestAssembleDistances(t *testing.T) {
	for _, d := range []int{0, 1, 127, 128, impl.MaxShort - 1, impl.MaxShort, impl.MaxShort + 1, impl.MaxShort + 2, 511, 512, 1000, 4000} {
		over := func(first impl.Item) []impl.Item {
			return slices.Concat(items(first), plainItems(d), items(labelItem(1), insItem(endA())))
		}
		made := func(first ...impl.Ins) []impl.Ins {
			return slices.Concat(first, plainIns(d), program(endA()))
		}
		skip := byK(0x05, uint32(d))
		wantAssembled(t, "goto", over(gotoItem(1)), made(skip)...)
		for _, code := range shortCodes {
			yes, no := made(branch(code, 9, uint8(d), 0)), made(branch(code, 9, 0, uint8(d)))
			if d > 255 {
				yes, no = made(branch(code, 9, 0, 1), skip), made(branch(code, 9, 1, 0), skip)
			}
			wantAssembled(t, "if", over(ifItem(code, 9, 1)), yes...)
			wantAssembled(t, "unless", over(unlessItem(code, 9, 1)), no...)
		}
	}
}

// P11, 5.1: a branch that is far only because one between it and its label is.
func TestAssembleFarBetween(t *testing.T) {
	size := func(distance int) int {
		if distance > 255 {
			return 2
		}
		return 1
	}
	for _, first := range []impl.Item{ifItem(0x15, 1, 1), unlessItem(0x15, 1, 1)} {
		for _, second := range []impl.Item{ifItem(0x25, 2, 2), unlessItem(0x25, 2, 2), gotoItem(2)} {
			for behind := 250; behind < 260; behind++ {
				for beyond := range 5 {
					// The second branch is one of the instructions over which the first one leads; it leads further.
					given := slices.Concat(items(first, second), plainItems(behind), items(labelItem(1)), plainItems(beyond), items(labelItem(2)))
					inner := 1
					if second.Kind != impl.ItemGoto {
						inner = size(behind + beyond)
					}
					want := refLayout(given)
					if len(want) != size(inner+behind)+inner+behind+beyond {
						t.Fatalf("%d and %d instructions behind: %d in all", behind, beyond, len(want))
					}
					wantAssembled(t, "far between", given, want...)
				}
			}
		}
	}
	// The outer branch has 255 items that make an instruction behind it, one of them far.
	given := slices.Concat(items(unlessItem(0x45, 5, 1), ifItem(0x35, 6, 2)), plainItems(254), items(labelItem(1)), plainItems(2), items(labelItem(2)))
	want := slices.Concat(program(branch(0x45, 5, 1, 0), byK(0x05, 256), branch(0x35, 6, 0, 1), byK(0x05, 256)), plainIns(254), plainIns(2))
	wantAssembled(t, "256 by a far branch", given, want...)
}

// P11, 5.1: labels that are missing, stand earlier or stand twice.
func TestAssembleLabelsNotGood(t *testing.T) {
	end := insItem(endA())
	l := labelItem(1)
	for _, b := range []impl.Item{ifItem(0x15, 7, 1), unlessItem(0x15, 7, 1), gotoItem(1)} {
		wantAssembled(t, "good", items(b, end, l, end), impl.Ins{Code: []uint16{0, 0x15, 0x15, 0x05}[b.Kind], Jt: []uint8{0, 1, 0, 0}[b.Kind],
			Jf: []uint8{0, 0, 1, 0}[b.Kind], K: []uint32{0, 7, 7, 1}[b.Kind]}, endA(), endA())
		wantNotAssembled(t, "missing", items(b, end), impl.CodeBad)
		wantNotAssembled(t, "another label", items(b, end, labelItem(2)), impl.CodeBad)
		wantNotAssembled(t, "earlier", items(l, b, end), impl.CodeBad)
		wantNotAssembled(t, "just earlier, at the end", items(end, l, b), impl.CodeBad)
		wantNotAssembled(t, "earlier for one of two", items(b, end, l, b, end), impl.CodeBad)
		wantNotAssembled(t, "earlier and later", items(l, b, end, l), impl.CodeBad)
		wantNotAssembled(t, "twice later", items(b, l, end, l), impl.CodeBad)
		wantNotAssembled(t, "the last of many", slices.Concat(items(b, l), plainItems(300), items(gotoItem(2))), impl.CodeBad)
	}
	wantNotAssembled(t, "twice, with no branch", items(l, end, l), impl.CodeBad)
	wantNotAssembled(t, "twice side by side", items(l, l), impl.CodeBad)
	wantNotAssembled(t, "twice with other instructions", items(l, impl.Item{Kind: impl.ItemLabel, Ins: endK(3), Target: 1}), impl.CodeBad)
	wantNotAssembled(t, "an instruction's target is no label", items(gotoItem(1), impl.Item{Kind: impl.ItemIns, Ins: endA(), Target: 1}), impl.CodeBad)
}

// P11, 5.1: labels of any number, many of them at once.
func TestAssembleLabelNumbers(t *testing.T) {
	var ahead, behind []impl.Item
	var want []impl.Ins
	n := len(farNumbers)
	for i, target := range farNumbers {
		wantAssembled(t, "alone", items(unlessItem(0x15, 3, target), insItem(endA()), labelItem(target)), branch(0x15, 3, 0, 1), endA())
		wantNotAssembled(t, "twice", items(labelItem(target), insItem(endA()), labelItem(target)), impl.CodeBad)
		ahead = append(ahead, ifItem(0x15, uint32(i), target))
		behind = append(behind, insItem(endK(uint32(i))), labelItem(target))
		want = append(want, branch(0x15, uint32(i), uint8(n), 0))
	}
	for i := range farNumbers {
		want = append(want, endK(uint32(i)))
	}
	wantAssembled(t, "all", append(ahead, behind...), want...)
}

// P11, 5.1: fields that are ignored.
func TestAssembleIgnoredFields(t *testing.T) {
	odd := impl.Ins{Code: 0xffff, Jt: 200, Jf: 100, K: 77}
	label := impl.Item{Kind: impl.ItemLabel, Ins: odd, Target: 1}
	for _, target := range farNumbers {
		wantAssembled(t, "the target of an instruction", items(impl.Item{Kind: impl.ItemIns, Ins: endK(5), Target: target}, label), endK(5))
	}
	wantAssembled(t, "the instruction of a goto", items(impl.Item{Kind: impl.ItemGoto, Ins: odd, Target: 1}, insItem(endA()), label), byK(0x05, 1), endA())
	wantAssembled(t, "Jt and Jf of an if", items(impl.Item{Kind: impl.ItemIf, Ins: branch(0x15, 4, 9, 8), Target: 1}, label), branch(0x15, 4, 0, 0))
	wantAssembled(t, "Jt and Jf of an unless", items(impl.Item{Kind: impl.ItemUnless, Ins: branch(0x15, 4, 9, 8), Target: 1}, label), branch(0x15, 4, 0, 0))
	far := slices.Concat(plainItems(256), items(label))
	wantAssembled(t, "Jt and Jf of a far if", append(items(impl.Item{Kind: impl.ItemIf, Ins: branch(0x15, 4, 9, 8), Target: 1}), far...),
		slices.Concat(program(branch(0x15, 4, 0, 1), byK(0x05, 256)), plainIns(256))...)
	wantAssembled(t, "Jt and Jf of a far unless", append(items(impl.Item{Kind: impl.ItemUnless, Ins: branch(0x15, 4, 9, 8), Target: 1}), far...),
		slices.Concat(program(branch(0x15, 4, 1, 0), byK(0x05, 256)), plainIns(256))...)
}

// P11, 5.1: MaxItems items and one more; a list that is not valid is no list that is too large.
func TestAssembleHowManyItems(t *testing.T) {
	labels := manyLabels(impl.MaxItems+1, -7)
	wantAssembled(t, "MaxItems labels", labels[:impl.MaxItems])
	wantNotAssembled(t, "one more", labels, impl.CodeBad)
	mixed := slices.Concat(items(gotoItem(0)), plainItems(4095), labels[:impl.MaxItems-4096])
	wantAssembled(t, "MaxItems items, MaxProgram instructions", mixed, slices.Concat(program(byK(0x05, 4095)), plainIns(4095))...)
	wantNotAssembled(t, "one label more", append(mixed, labelItem(-100)), impl.CodeBad)
	wantNotAssembled(t, "MaxItems instructions", plainItems(impl.MaxItems), impl.CodeTooLarge)
	wantNotAssembled(t, "one more", plainItems(impl.MaxItems+1), impl.CodeBad)
	for _, at := range []int{0, 2500, 4999} {
		long := plainItems(5000)
		long[at].Ins.Code = 0x05
		wantNotAssembled(t, "a code that is not valid, in a long list", long, impl.CodeBad)
		long[at] = gotoItem(1)
		wantNotAssembled(t, "a missing label, in a long list", long, impl.CodeBad)
		long[at] = labelItem(1)
		wantNotAssembled(t, "a label in a long list", long, impl.CodeTooLarge)
		long[1000] = labelItem(1)
		wantNotAssembled(t, "a label twice in a long list", long, impl.CodeBad)
	}
}

// P11, 5.1: layouts of exactly MaxProgram instructions and of one more.
func TestAssembleHowManyInstructions(t *testing.T) {
	wantAssembled(t, "plain", plainItems(impl.MaxProgram), plainIns(impl.MaxProgram)...)
	wantNotAssembled(t, "one more", plainItems(impl.MaxProgram+1), impl.CodeTooLarge)
	for _, first := range []impl.Item{ifItem(0x15, 1, 1), unlessItem(0x15, 1, 1), gotoItem(1)} {
		makes := 2
		if first.Kind == impl.ItemGoto {
			makes = 1
		}
		fits := slices.Concat(items(first), plainItems(impl.MaxProgram-makes), items(labelItem(1)))
		wantAssembled(t, "far", fits, refLayout(fits)...)
		wantNotAssembled(t, "far, one more", append(fits, insItem(endA())), impl.CodeTooLarge)
		wantNotAssembled(t, "far, one more ahead", append(items(insItem(endA())), fits...), impl.CodeTooLarge)
	}
	// Here the one instruction too many is that of a branch which becomes a far one.
	short := slices.Concat(plainItems(3840), items(ifItem(0x15, 1, 1)), plainItems(255), items(labelItem(1)))
	wantAssembled(t, "the last short branch", short, refLayout(short)...)
	far := slices.Concat(plainItems(3839), items(ifItem(0x15, 1, 1)), plainItems(256), items(labelItem(1)))
	wantNotAssembled(t, "the first far branch", far, impl.CodeTooLarge)
	wantAssembled(t, "the first far branch, one less", far[1:], refLayout(far[1:])...)
}

// Rules for all chapters: the argument is as it was, and the answer is new memory.
func TestAssembleMemory(t *testing.T) {
	given := slices.Concat(items(ifItem(0x15, 1, 1), unlessItem(0x25, 2, 2)), plainItems(300), items(labelItem(1), insItem(endA()), labelItem(2)))
	before := slices.Clone(given)
	first, _ := impl.Assemble(given)
	second, _ := impl.Assemble(given)
	if !slices.Equal(given, before) {
		t.Error("Assemble wrote into its argument")
	}
	kept := slices.Clone(second)
	clear(first[:cap(first)])
	if !slices.Equal(given, before) || !slices.Equal(second, kept) {
		t.Error("the answer shares memory with the argument or with another answer")
	}
	clear(given)
	if !slices.Equal(second, kept) {
		t.Error("the answer hangs on the items after Assemble has answered")
	}
	bad := items(labelItem(1), gotoItem(1))
	impl.Assemble(bad)
	if !slices.Equal(bad, items(labelItem(1), gotoItem(1))) {
		t.Error("Assemble wrote into an argument that is not valid")
	}
}
