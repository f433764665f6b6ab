package tests

import (
	"fmt"
	"slices"
	"testing"

	"loop.example/s0039/impl"
)

func wantBad(t *testing.T, name string, prog []impl.Ins, rec []byte) {
	t.Helper()
	result, steps, code := impl.Run(prog, rec)
	if result != 0 || steps != 0 || code != impl.CodeBad {
		t.Errorf("%s: %#x, %d steps, code %d, want 0, 0, CodeBad", name, result, steps, code)
	}
}

// P2: a program with any of the faults does not run.
func TestRunRefusesFaults(t *testing.T) {
	cases := map[string][]impl.Ins{
		"nil":                    nil,
		"empty":                  {},
		"one too many":           padded(impl.MaxProgram + 1),
		"code":                   program(endK(1), byK(0x17, 0), endK(1)),
		"load":                   program(endK(1), byK(0x20, 64), endK(1)),
		"memory":                 program(endK(1), byK(0x60, 16), endK(1)),
		"jump":                   program(endK(1), byK(0x05, 1), endK(1)),
		"jump by all ones":       program(byK(0x05, allOnes), endK(1)),
		"test":                   program(branch(0x15, 0, 0, 1), endK(1)),
		"division by 0":          program(endK(1), byK(0x34, 0), endK(1)),
		"shift by 32":            program(endK(1), byK(0x64, 32), endK(1)),
		"no end":                 program(endK(1), byK(0x00, 7)),
		"a fault never reached":  program(endK(1), byK(0x00, 7), endK(1), byK(0x07, 0)),
		"a fault past the first": program(byK(0x05, 1), byK(0x99, 0), endK(1)),
	}
	for name, prog := range cases {
		wantBad(t, name, prog, countingRecord())
	}
}

// P2: a record has exactly RecordSize bytes.
func TestRunRecordSize(t *testing.T) {
	for _, size := range []int{0, 1, 60, 63, 65, 128, 4096} {
		wantBad(t, fmt.Sprintf("%d bytes", size), program(endK(1)), make([]byte, size))
	}
	wantBad(t, "nil", program(endK(1)), nil)
	wantBad(t, "neither is right", nil, nil)
	result, steps, code := impl.Run(program(endK(1)), make([]byte, 64))
	if result != 1 || steps != 1 || code != impl.CodeOK {
		t.Errorf("64 bytes: %d %d %d", result, steps, code)
	}
}

// P2: steps of straight programs, the last one counted.
func TestRunStepsStraight(t *testing.T) {
	for _, n := range []int{1, 2, 17, 255, 256, 257, impl.MaxProgram} {
		prog := make([]impl.Ins, n)
		for i := range prog {
			prog[i] = byK(0x04, 1)
		}
		prog[n-1] = endA()
		wantRun(t, fmt.Sprintf("%d instructions", n), prog, uint32(n-1), n)
	}
	wantRun(t, "an end ahead of the last", program(byK(0x00, 1), endK(5), endK(6)), 5, 2)
}

// P2: steps of jumping programs: what is skipped is not counted.
func TestRunStepsJumping(t *testing.T) {
	wantRun(t, "no skip", program(byK(0x05, 0), endK(1), endK(2)), 1, 2)
	wantRun(t, "to the last", program(byK(0x05, 2), endK(1), endK(2), endK(3)), 3, 2)
	far := padded(impl.MaxProgram, byK(0x05, impl.MaxProgram-2))
	far[impl.MaxProgram-1] = endK(77)
	wantRun(t, "over a whole program", far, 77, 2)
	near := padded(257, branch(0x15, 0, 255, 0))
	near[256] = endK(78)
	wantRun(t, "a test by 255", near, 78, 2)
	near[0] = branch(0x15, 1, 0, 255)
	wantRun(t, "a failing test by 255", near, 78, 2)
	chain := program(byK(0x05, 1), endK(1), branch(0x25, 0, 0, 1), endK(2), byK(0x05, 0), byK(0x00, 9), endA())
	wantRun(t, "a chain", chain, 9, 5)
}

// P2: between one step and as many as there are instructions, for all programs of a fixed row.
func TestRunStepsWithinBounds(t *testing.T) {
	row := &numbers{state: 2}
	for range 3000 {
		prog := validProgram(row, 1+row.below(40))
		_, steps, code := impl.Run(prog, countingRecord())
		if code != impl.CodeOK || steps < 1 || steps > len(prog) {
			t.Fatalf("%v: %d steps with code %d", prog, steps, code)
		}
	}
}

// P2, P3: Run leaves the program and the record as they are, and nothing stays from run to run.
func TestRunKeepsItsArguments(t *testing.T) {
	prog := program(byK(0x60, 3), byK(0x04, 5), byK(0x02, 3), byK(0x60, 3), endA())
	before := slices.Clone(prog)
	rec := countingRecord()
	for range 2 {
		result, steps, code := impl.Run(prog, rec)
		if result != 5 || steps != 5 || code != impl.CodeOK {
			t.Errorf("%d %d %d", result, steps, code)
		}
	}
	if !slices.Equal(prog, before) || !slices.Equal(rec, countingRecord()) {
		t.Error("an argument was changed")
	}
}

// validProgram is a program of n instructions, each with any code of the table that has no fault there.
func validProgram(row *numbers, n int) []impl.Ins {
	out := make([]impl.Ins, n)
	for i := range out {
		out[i] = validIns(row, n-1-i)
	}
	return out
}

// validIns is an instruction that has so many others behind it.
func validIns(row *numbers, after int) impl.Ins {
	if after == 0 {
		return branch([]uint16{0x06, 0x16}[row.below(2)], row.next(), uint8(row.next()), uint8(row.next()))
	}
	ins := impl.Ins{
		Code: tableCodes[row.below(len(tableCodes))],
		Jt:   uint8(row.next()),
		Jf:   uint8(row.next()),
		K:    edgeNumber(row),
	}
	if (ins.Code == 0x06 || ins.Code == 0x16) && row.below(4) > 0 {
		ins.Code = 0x20 // Most ends give way, so that runs get far.
	}
	switch {
	case ins.Code == 0x20:
		ins.K = uint32(4 * row.below(16))
	case slices.Contains(memoryCodes, ins.Code):
		ins.K = uint32(row.below(16))
	case ins.Code == 0x05:
		ins.K = uint32(row.below(after))
	case slices.Contains(testCodes, ins.Code):
		ins.Jt, ins.Jf = uint8(row.below(after)), uint8(row.below(after))
	case ins.Code == 0x34:
		ins.K |= 1
	case ins.Code == 0x64, ins.Code == 0x74:
		ins.K %= 32
	}
	return ins
}

func edgeNumber(row *numbers) uint32 {
	edges := []uint32{0, 1, 2, 31, 32, 33, 0x7fffffff, 0x80000000, allOnes - 1, allOnes}
	if row.below(3) == 0 {
		return row.next()
	}
	return edges[row.below(len(edges))]
}

// P3: programs of a fixed row against the table told anew, in mathematical integers.
func TestRunAgainstTheTable(t *testing.T) {
	row := &numbers{state: 1}
	for range 20000 {
		prog := validProgram(row, 1+row.below(30))
		rec := make([]byte, impl.RecordSize)
		for i := range rec {
			rec[i] = byte(row.next())
		}
		wantResult, wantSteps := runByTheTable(prog, rec)
		result, steps, code := impl.Run(prog, rec)
		if result != wantResult || steps != wantSteps || code != impl.CodeOK {
			t.Fatalf("%v: %#x after %d with code %d, want %#x after %d", prog, result, steps, code, wantResult, wantSteps)
		}
	}
}

// runByTheTable is a second telling of chapter 1.1, by pairs of codes and not by a switch over all of them.
func runByTheTable(prog []impl.Ins, rec []byte) (uint32, int) {
	var a, x uint64
	mem := map[uint32]uint64{}
	steps := 0
	for at := 0; ; at++ {
		ins := prog[at]
		steps++
		k := uint64(ins.K)
		v := k
		if ins.Code&0x0f == 0x0c || ins.Code&0x0f == 0x0d {
			v = x
		}
		switch {
		case ins.Code == 0x06:
			return ins.K, steps
		case ins.Code == 0x16:
			return uint32(a), steps
		case ins.Code == 0x05:
			at += int(k)
		case slices.Contains(testCodes, ins.Code):
			if holdsByTheTable(ins.Code&^8, a, v) {
				at += int(ins.Jt)
			} else {
				at += int(ins.Jf)
			}
		case ins.Code == 0x3c && x == 0:
			return impl.RetDeny, steps
		case ins.Code == 0x84:
			a = (1<<32 - a) % (1 << 32)
		case ins.Code&7 == 4:
			a = arithmeticByTheTable(ins.Code&^8, a, v)
		case ins.Code == 0x00:
			a = k
		case ins.Code == 0x01:
			x = k
		case ins.Code == 0x20:
			a = uint64(rec[k]) + 256*uint64(rec[k+1]) + 65536*uint64(rec[k+2]) + 16777216*uint64(rec[k+3])
		case ins.Code == 0x60:
			a = mem[ins.K]
		case ins.Code == 0x61:
			x = mem[ins.K]
		case ins.Code == 0x02:
			mem[ins.K] = a
		case ins.Code == 0x03:
			mem[ins.K] = x
		case ins.Code == 0x07:
			x = a
		case ins.Code == 0x87:
			a = x
		}
	}
}

func holdsByTheTable(code uint16, a, v uint64) bool {
	switch code {
	case 0x15:
		return a == v
	case 0x25:
		return a > v
	case 0x35:
		return a >= v
	}
	return a&v > 0
}

func arithmeticByTheTable(code uint16, a, v uint64) uint64 {
	const size = 1 << 32
	switch code {
	case 0x04:
		return (a + v) % size
	case 0x14:
		return (a + size - v) % size
	case 0x24:
		return a * v % size
	case 0x34:
		return a / v
	case 0x44:
		return a | v
	case 0x54:
		return a & v
	case 0xa4:
		return a ^ v
	}
	for ; v > 0 && a > 0; v-- {
		if code == 0x64 {
			a = a * 2 % size
		} else {
			a /= 2
		}
	}
	return a
}
