package tests

import (
	"fmt"
	"slices"
	"testing"

	"loop.example/s0039/impl"
)

// P1: the constants are those of the document's tables.
func TestMachineConstants(t *testing.T) {
	codes := []int{
		impl.CodeOK, impl.CodeBad, impl.CodeHeader, impl.CodeVersion, impl.CodeCount, impl.CodeShort,
		impl.CodeLength, impl.CodeSum, impl.CodeBody, impl.CodeExtra, impl.CodeTooLarge,
	}
	faults := []int{
		impl.FaultNone, impl.FaultSize, impl.FaultCode, impl.FaultLoad,
		impl.FaultMemory, impl.FaultJump, impl.FaultOperand, impl.FaultEnd,
	}
	for _, list := range [][]int{codes, faults} {
		for i, got := range list {
			if got != i {
				t.Errorf("constant %d is %d", i, got)
			}
		}
	}
	if impl.MaxProgram != 4096 || impl.MemWords != 16 || impl.RecordSize != 64 {
		t.Error("a limit is not the document's")
	}
	if impl.RetAllow != 0x7fff0000 || impl.RetDeny != 0x80000000 {
		t.Error("a result is not the document's")
	}
}

// P1: the number of instructions.
func TestValidateSize(t *testing.T) {
	wantFault(t, "nil", nil, impl.FaultSize, 0)
	wantFault(t, "empty", []impl.Ins{}, impl.FaultSize, 0)
	wantFault(t, "one", padded(1), impl.FaultNone, 0)
	wantFault(t, "MaxProgram", padded(impl.MaxProgram), impl.FaultNone, 0)
	wantFault(t, "one more", padded(impl.MaxProgram+1), impl.FaultSize, 0)
	wantFault(t, "one more, with another fault", placed(impl.MaxProgram+1, 3, byK(0x99, 0)), impl.FaultSize, 0)
	wantFault(t, "a fault at the last of MaxProgram", placed(impl.MaxProgram, impl.MaxProgram-1, byK(0x34, 1)), impl.FaultEnd, impl.MaxProgram-1)
}

// P1: every code is in the table or is FaultCode. With K = 1 and room behind it, a code of the table has no fault but the load's.
func TestValidateEveryCode(t *testing.T) {
	for code := 0; code <= 0xffff; code++ {
		want := impl.FaultCode
		if slices.Contains(tableCodes, uint16(code)) {
			want = impl.FaultNone
		}
		at := 0
		if want != impl.FaultNone {
			at = 2
		}
		k := uint32(1)
		if code == 0x20 {
			k = 4
		}
		wantFault(t, fmt.Sprintf("code %#x", code), placed(6, 2, byK(uint16(code), k)), want, at)
	}
}

// P1: loads at multiples of 4 up to 60.
func TestValidateLoad(t *testing.T) {
	for k := uint32(0); k < 200; k++ {
		fault, at := impl.FaultNone, 0
		if k%4 != 0 || k > 60 {
			fault, at = impl.FaultLoad, 1
		}
		wantFault(t, fmt.Sprintf("load %d", k), placed(3, 1, byK(0x20, k)), fault, at)
	}
	for _, k := range []uint32{61, 64, 256, 0x80000000, 0xfffffffc, allOnes} {
		wantFault(t, fmt.Sprintf("load %d", k), placed(3, 1, byK(0x20, k)), impl.FaultLoad, 1)
	}
}

// P1: memory words below MemWords.
func TestValidateMemory(t *testing.T) {
	for _, code := range memoryCodes {
		for _, k := range []uint32{0, 1, 15} {
			wantFault(t, fmt.Sprintf("%#x of %d", code, k), placed(3, 1, byK(code, k)), impl.FaultNone, 0)
		}
		for _, k := range []uint32{16, 17, 256, 0x80000000, allOnes} {
			wantFault(t, fmt.Sprintf("%#x of %d", code, k), placed(3, 1, byK(code, k)), impl.FaultMemory, 1)
		}
	}
}

// P1: jumps by K, to the last instruction and past it.
func TestValidateSkip(t *testing.T) {
	for _, n := range []int{2, 3, 10, 300, impl.MaxProgram} {
		for _, i := range []int{0, (n - 1) / 2, n - 2} {
			last := uint32(n - 2 - i)
			wantFault(t, fmt.Sprintf("%d of %d to the last", i, n), placed(n, i, byK(0x05, last)), impl.FaultNone, 0)
			for _, k := range []uint32{last + 1, last + 2, 0x7fffffff, 0x80000000, allOnes - uint32(i), allOnes - 1, allOnes} {
				wantFault(t, fmt.Sprintf("%d of %d by %d", i, n, k), placed(n, i, byK(0x05, k)), impl.FaultJump, i)
			}
		}
	}
	for _, k := range []uint32{0, 1, allOnes} {
		wantFault(t, "a last jump", placed(4, 3, byK(0x05, k)), impl.FaultJump, 3)
		wantFault(t, "a lone jump", program(byK(0x05, k)), impl.FaultJump, 0)
	}
}

// P1: both ways of a test, to the last instruction and past it.
func TestValidateTestJumps(t *testing.T) {
	for _, code := range testCodes {
		name := fmt.Sprintf("%#x", code)
		for _, room := range []int{1, 2, 100, 255} {
			n, i := room+3, 2
			last := uint8(room - 1)
			wantFault(t, name+" both to the last", placed(n, i, branch(code, 0, last, last)), impl.FaultNone, 0)
			wantFault(t, name+" Jt past it", placed(n, i, branch(code, 0, last+1, 0)), impl.FaultJump, i)
			wantFault(t, name+" Jf past it", placed(n, i, branch(code, 0, 0, last+1)), impl.FaultJump, i)
			wantFault(t, name+" both past it", placed(n, i, branch(code, 0, last+1, last+1)), impl.FaultJump, i)
			wantFault(t, name+" 255 past it", placed(n, i, branch(code, 0, 255, 255)), impl.FaultJump, i)
		}
		wantFault(t, name+" 255 to the last", placed(259, 2, branch(code, 0, 255, 255)), impl.FaultNone, 0)
		wantFault(t, name+" last", placed(4, 3, branch(code, 0, 0, 0)), impl.FaultJump, 3)
		wantFault(t, name+" alone", program(branch(code, 0, 0, 0)), impl.FaultJump, 0)
	}
}

// P1: operands that are never right.
func TestValidateOperand(t *testing.T) {
	wantFault(t, "division by 0", placed(3, 1, byK(0x34, 0)), impl.FaultOperand, 1)
	for _, k := range []uint32{1, 2, 0x80000000, allOnes} {
		wantFault(t, fmt.Sprintf("division by %d", k), placed(3, 1, byK(0x34, k)), impl.FaultNone, 0)
	}
	for _, code := range []uint16{0x64, 0x74} {
		for _, k := range []uint32{0, 1, 31} {
			wantFault(t, fmt.Sprintf("%#x by %d", code, k), placed(3, 1, byK(code, k)), impl.FaultNone, 0)
		}
		for _, k := range []uint32{32, 33, 256, 0x80000000, allOnes} {
			wantFault(t, fmt.Sprintf("%#x by %d", code, k), placed(3, 1, byK(code, k)), impl.FaultOperand, 1)
		}
	}
}

// P1: only 0x06 and 0x16 end a program.
func TestValidateEnd(t *testing.T) {
	for _, code := range tableCodes {
		if code == 0x05 || slices.Contains(testCodes, code) {
			continue
		}
		fault, at := impl.FaultEnd, 2
		if code == 0x06 || code == 0x16 {
			fault, at = impl.FaultNone, 0
		}
		k := uint32(4)
		wantFault(t, fmt.Sprintf("last %#x", code), placed(3, 2, byK(code, k)), fault, at)
	}
}

// P1: of two faults at one instruction the order decides; only FaultEnd can meet another one.
func TestValidateOrderAtOneInstruction(t *testing.T) {
	cases := []struct {
		name  string
		ins   impl.Ins
		fault int
	}{
		{"code and end", byK(0x08, 0), impl.FaultCode},
		{"load and end", byK(0x20, 61), impl.FaultLoad},
		{"memory and end", byK(0x02, 16), impl.FaultMemory},
		{"jump and end", byK(0x05, 0), impl.FaultJump},
		{"test and end", branch(0x45, 0, 0, 0), impl.FaultJump},
		{"division and end", byK(0x34, 0), impl.FaultOperand},
		{"shift and end", byK(0x74, 32), impl.FaultOperand},
		{"end alone", byK(0x74, 31), impl.FaultEnd},
	}
	for _, c := range cases {
		wantFault(t, c.name, placed(3, 2, c.ins), c.fault, 2)
	}
	// A code that differs from one of the table in its upper byte alone has no other fault.
	for _, code := range tableCodes {
		wantFault(t, fmt.Sprintf("%#x", code|0x100), program(impl.Ins{Code: code | 0x100, Jt: 255, Jf: 255, K: allOnes}), impl.FaultCode, 0)
	}
}

// P1: of faults at two instructions the lower index decides, whichever faults they are.
func TestValidateOrderOfInstructions(t *testing.T) {
	faulty := []struct {
		ins   impl.Ins
		fault int
	}{
		{byK(0x08, 0), impl.FaultCode},
		{byK(0x20, 2), impl.FaultLoad},
		{byK(0x61, 16), impl.FaultMemory},
		{byK(0x05, 100), impl.FaultJump},
		{branch(0x3d, 0, 0, 100), impl.FaultJump},
		{byK(0x34, 0), impl.FaultOperand},
	}
	for _, first := range faulty {
		for _, second := range faulty {
			prog := padded(6)
			prog[1], prog[3] = first.ins, second.ins
			wantFault(t, fmt.Sprintf("%d ahead of %d", first.fault, second.fault), prog, first.fault, 1)
		}
		prog := placed(6, 4, first.ins)
		prog[5] = byK(0x00, 0)
		wantFault(t, fmt.Sprintf("%d ahead of a missing end", first.fault), prog, first.fault, 4)
	}
}

// P1: fields that an instruction does not use are no fault at any value.
func TestValidateIgnoresUnusedFields(t *testing.T) {
	for _, code := range tableCodes {
		if slices.Contains(testCodes, code) {
			for _, k := range []uint32{0, 32, allOnes} {
				wantFault(t, fmt.Sprintf("%#x with K %d", code, k), placed(3, 1, byK(code, k)), impl.FaultNone, 0)
			}
			continue
		}
		k := uint32(4)
		switch code {
		case 0x20, 0x60, 0x61, 0x02, 0x03, 0x34, 0x64, 0x74:
		case 0x05:
			k = 0
		default:
			k = allOnes
		}
		for _, k := range []uint32{k, k &^ 3} {
			if code == 0x34 && k == 0 {
				continue
			}
			wantFault(t, fmt.Sprintf("%#x with Jt, Jf and K %d", code, k), placed(3, 1, branch(code, k, 255, 255)), impl.FaultNone, 0)
		}
	}
	for _, code := range []uint16{0x3c, 0x6c, 0x7c, 0x84, 0x07, 0x87, 0x16} {
		for _, k := range []uint32{0, 31, 32, allOnes} {
			wantFault(t, fmt.Sprintf("%#x with K %d", code, k), placed(3, 1, branch(code, k, 7, 9)), impl.FaultNone, 0)
		}
	}
}

// P1: Validate leaves the program as it is.
func TestValidateKeepsItsArgument(t *testing.T) {
	prog := program(branch(0x20, 4, 3, 5), branch(0x15, 4, 0, 1), byK(0x05, 0), endA())
	before := slices.Clone(prog)
	wantFault(t, "valid", prog, impl.FaultNone, 0)
	if !slices.Equal(prog, before) {
		t.Errorf("%v", prog)
	}
}
