package tests

import (
	"bytes"
	"slices"
	"testing"

	"loop.example/s0039/impl"
)

// Chapter 2.5: a record whose 64 bytes all differ.
func TestMakeRecordPlaces(t *testing.T) {
	c := call(0x07060504, 0x03020100,
		0x1716151413121110, 0x1f1e1d1c1b1a1918, 0x2726252423222120, 0x2f2e2d2c2b2a2928, 0x3736353433323130, 0x3f3e3d3c3b3a3938)
	want := make([]byte, impl.RecordSize)
	for i := range want {
		want[i] = byte(i)
	}
	if got := impl.MakeRecord(c, 0x0f0e0d0c0b0a0908); !bytes.Equal(got, want) {
		t.Errorf("record %v, want %v", got, want)
	}
}

// Chapter 2.5: all ones in one place and 0 in the others.
func TestMakeRecordEdges(t *testing.T) {
	record := func(from, to int) []byte {
		out := make([]byte, impl.RecordSize)
		for i := from; i < to; i++ {
			out[i] = 255
		}
		return out
	}
	wantRecord := func(c impl.Call, ip uint64, from, to int) {
		t.Helper()
		if got := impl.MakeRecord(c, ip); !bytes.Equal(got, record(from, to)) {
			t.Errorf("record %v, want 255 from %d to %d", got, from, to)
		}
	}
	wantRecord(zeroCall(), 0, 0, 0)
	wantRecord(zeroCall(), allOnes64, 8, 16)
	wantRecord(call(0, allOnes, 0, 0, 0, 0, 0, 0), 0, 0, 4)
	wantRecord(call(allOnes, 0, 0, 0, 0, 0, 0, 0), 0, 4, 8)
	for i := range 6 {
		c := zeroCall()
		c.Args[i] = allOnes64
		wantRecord(c, 0, 16+8*i, 24+8*i)
	}
}

// Chapter 2.5: a call that is not valid has no record.
func TestMakeRecordOfCallsThatAreNotValid(t *testing.T) {
	for _, n := range []int{0, 1, 5, 7, 12} {
		if got := impl.MakeRecord(impl.Call{Arch: 1, Nr: 2, Args: make([]uint64, n)}, 3); len(got) != 0 {
			t.Errorf("a call with %d arguments: record %v, want none", n, got)
		}
	}
}

// Chapter 2.5 with chapter 1: the machine finds the halves of the call where the document puts them.
func TestMachineReadsRecord(t *testing.T) {
	c := call(11, 12, 0x2000000010, 0x2100000011, 0x2200000012, 0x2300000013, 0x2400000014, 0x2500000015)
	rec := impl.MakeRecord(c, 0x3100000030)
	for at, want := range map[uint32]uint32{
		0: 12, 4: 11, 8: 0x30, 12: 0x31, 16: 0x10, 20: 0x20, 24: 0x11, 28: 0x21, 32: 0x12, 36: 0x22,
		40: 0x13, 44: 0x23, 48: 0x14, 52: 0x24, 56: 0x15, 60: 0x25,
	} {
		if got, _, code := impl.Run(program(byK(0x20, at), endA()), rec); got != want || code != impl.CodeOK {
			t.Errorf("at %d: %#x with code %d, want %#x", at, got, code, want)
		}
	}
}

// Rules for all chapters: every record is new memory, and the call stays as it is.
func TestMakeRecordMemory(t *testing.T) {
	c := call(1, 2, 3, 4, 5, 6, 7, 8)
	first := impl.MakeRecord(c, 9)
	want := slices.Clone(first)
	clear(impl.MakeRecord(c, 9))
	if !bytes.Equal(first, want) {
		t.Error("two records share memory")
	}
	if !slices.Equal(c.Args, []uint64{3, 4, 5, 6, 7, 8}) {
		t.Errorf("the arguments became %v", c.Args)
	}
}
