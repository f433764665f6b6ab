package tests

import (
	"bytes"
	"fmt"
	"slices"
	"testing"

	"loop.example/s0039/impl"
)

func wantThereAndBack(t *testing.T, name string, prog []impl.Ins) {
	t.Helper()
	b := impl.EncodeProgram(prog)
	if len(b) != 8*len(prog) {
		t.Errorf("%s: %d bytes for %d instructions", name, len(b), len(prog))
	}
	back, code := impl.DecodeProgram(b)
	if code != impl.CodeOK || !slices.Equal(back, prog) {
		t.Errorf("%s: code %d, %d instructions, want the %d given", name, code, len(back), len(prog))
	}
}

// P4: the form of the bytes.
func TestProgramBytesForm(t *testing.T) {
	prog := program(
		impl.Ins{Code: 0x1234, Jt: 0x56, Jf: 0x78, K: 0x9abcdef0},
		impl.Ins{},
		impl.Ins{Code: 0xffff, Jt: 0xff, Jf: 0, K: allOnes},
		endK(impl.RetDeny),
	)
	want := []byte{
		0x34, 0x12, 0x56, 0x78, 0xf0, 0xde, 0xbc, 0x9a,
		0, 0, 0, 0, 0, 0, 0, 0,
		0xff, 0xff, 0xff, 0, 0xff, 0xff, 0xff, 0xff,
		0x06, 0, 0, 0, 0, 0, 0, 0x80,
	}
	if got := impl.EncodeProgram(prog); !bytes.Equal(got, want) {
		t.Errorf("%v, want %v", got, want)
	}
	got, code := impl.DecodeProgram(want)
	if code != impl.CodeOK || !slices.Equal(got, prog) {
		t.Errorf("%v with code %d, want %v", got, code, prog)
	}
}

// P4: there and back, for valid programs and others.
func TestProgramBytesThereAndBack(t *testing.T) {
	wantThereAndBack(t, "nil", nil)
	wantThereAndBack(t, "empty", []impl.Ins{})
	wantThereAndBack(t, "valid", program(byK(0x20, 4), branch(0x15, 9, 1, 0), endK(1), endK(2)))
	row := &numbers{state: 3}
	for _, n := range []int{1, 2, 3, 50, impl.MaxProgram - 1, impl.MaxProgram} {
		prog := make([]impl.Ins, n)
		for i := range prog {
			prog[i] = impl.Ins{Code: uint16(row.next()), Jt: uint8(row.next()), Jf: uint8(row.next()), K: row.next()}
		}
		wantThereAndBack(t, fmt.Sprintf("%d instructions", n), prog)
	}
}

// P4: EncodeProgram has no limit, DecodeProgram has.
func TestProgramBytesTooMany(t *testing.T) {
	b := impl.EncodeProgram(padded(impl.MaxProgram + 1))
	if len(b) != 8*(impl.MaxProgram+1) {
		t.Errorf("%d bytes", len(b))
	}
	if prog, code := impl.DecodeProgram(b); code != impl.CodeBad || len(prog) != 0 {
		t.Errorf("code %d and %d instructions", code, len(prog))
	}
}

// P4: lengths that are no multiple of 8, or greater than 8 * MaxProgram.
func TestDecodeProgramLengths(t *testing.T) {
	lengths := []int{8*impl.MaxProgram - 1, 8 * impl.MaxProgram, 8*impl.MaxProgram + 1, 8*impl.MaxProgram + 8, 16 * impl.MaxProgram}
	for n := range 41 {
		lengths = append(lengths, n)
	}
	for _, n := range lengths {
		prog, code := impl.DecodeProgram(make([]byte, n))
		wantCode, wantCount := impl.CodeOK, n/8
		if n%8 != 0 || n > 8*4096 {
			wantCode, wantCount = impl.CodeBad, 0
		}
		if code != wantCode || len(prog) != wantCount {
			t.Errorf("%d bytes: code %d and %d instructions, want %d and %d", n, code, len(prog), wantCode, wantCount)
		}
	}
	if prog, code := impl.DecodeProgram(nil); code != impl.CodeOK || len(prog) != 0 {
		t.Errorf("nil: code %d and %d instructions", code, len(prog))
	}
}

// P4: the arguments stay as they are, and answers do not change with what is done to arguments or other answers.
func TestProgramBytesShareNothing(t *testing.T) {
	prog := program(impl.Ins{Code: 1, Jt: 2, Jf: 3, K: 4}, impl.Ins{Code: 5, Jt: 6, Jf: 7, K: 8})
	before := slices.Clone(prog)
	b := impl.EncodeProgram(prog)
	bytesBefore := slices.Clone(b)
	first, _ := impl.DecodeProgram(b)
	if !slices.Equal(prog, before) || !bytes.Equal(b, bytesBefore) {
		t.Error("an argument was changed")
	}
	second, _ := impl.DecodeProgram(b)
	first[0] = impl.Ins{}
	again := impl.EncodeProgram(prog)
	b[0] = 99
	prog[0].K = 99
	if !slices.Equal(second, before) || !bytes.Equal(again, bytesBefore) {
		t.Error("an answer changed after it was given")
	}
}
