package tests

import (
	"slices"
	"testing"

	"loop.example/s0039/impl"
)

const allOnes = 0xffffffff

// tableCodes are all codes of the document's table of instructions.
var tableCodes = []uint16{
	0x00, 0x01, 0x20, 0x60, 0x61, 0x02, 0x03,
	0x04, 0x0c, 0x14, 0x1c, 0x24, 0x2c, 0x34, 0x3c, 0x44, 0x4c, 0x54, 0x5c, 0xa4, 0xac,
	0x64, 0x6c, 0x74, 0x7c, 0x84, 0x07, 0x87,
	0x05, 0x15, 0x1d, 0x25, 0x2d, 0x35, 0x3d, 0x45, 0x4d, 0x06, 0x16,
}

var testCodes = []uint16{0x15, 0x1d, 0x25, 0x2d, 0x35, 0x3d, 0x45, 0x4d}

var memoryCodes = []uint16{0x60, 0x61, 0x02, 0x03}

func byK(code uint16, k uint32) impl.Ins {
	return impl.Ins{Code: code, K: k}
}

func branch(code uint16, k uint32, jt, jf uint8) impl.Ins {
	return impl.Ins{Code: code, Jt: jt, Jf: jf, K: k}
}

func endK(k uint32) impl.Ins {
	return byK(0x06, k)
}

func endA() impl.Ins {
	return byK(0x16, 0)
}

func program(ins ...impl.Ins) []impl.Ins {
	return ins
}

// padded is the program that begins with the given instructions and has n in all, the others ends.
func padded(n int, first ...impl.Ins) []impl.Ins {
	out := slices.Clone(first)
	for len(out) < n {
		out = append(out, endK(0))
	}
	return out
}

// placed is a program of n ends with the given instruction at index i.
func placed(n, i int, ins impl.Ins) []impl.Ins {
	out := padded(n)
	out[i] = ins
	return out
}

// countingRecord has bytes that all differ, so that a wrong place or order of bytes shows.
func countingRecord() []byte {
	out := make([]byte, impl.RecordSize)
	for i := range out {
		out[i] = byte(0x81 + 3*i)
	}
	return out
}

func wantFault(t *testing.T, name string, prog []impl.Ins, fault, at int) {
	t.Helper()
	gotFault, gotAt := impl.Validate(prog)
	if gotFault != fault || gotAt != at {
		t.Errorf("%s: fault %d at %d, want %d at %d", name, gotFault, gotAt, fault, at)
	}
}

func wantRun(t *testing.T, name string, prog []impl.Ins, result uint32, steps int) {
	t.Helper()
	gotResult, gotSteps, code := impl.Run(prog, countingRecord())
	if gotResult != result || gotSteps != steps || code != impl.CodeOK {
		t.Errorf("%s: result %#x after %d steps with code %d, want %#x after %d with CodeOK", name, gotResult, gotSteps, code, result, steps)
	}
}

// numbers is a fixed row of numbers, the same in every run of the tests.
type numbers struct {
	state uint64
}

func (n *numbers) next() uint32 {
	n.state = n.state*6364136223846793005 + 1442695040888963407
	return uint32(n.state >> 32)
}

func (n *numbers) below(limit int) int {
	return int(n.next() % uint32(limit))
}

// shuffled is the list in another order, in new memory.
func shuffled[T any](n *numbers, list []T) []T {
	out := slices.Clone(list)
	for i := range out {
		j := i + n.below(len(out)-i)
		out[i], out[j] = out[j], out[i]
	}
	return out
}
