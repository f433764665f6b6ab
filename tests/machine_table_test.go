package tests

import (
	"fmt"
	"testing"

	"loop.example/s0039/impl"
)

// P3: every instruction with two operands, by K and by X, at wrap-round and at the edges.
func TestRunArithmetic(t *testing.T) {
	cases := []struct {
		code    uint16
		a, v    uint32
		want    uint32
		byXOnly bool
	}{
		{code: 0x04, a: 3, v: 4, want: 7},
		{code: 0x04, a: allOnes, v: 1, want: 0},
		{code: 0x04, a: allOnes, v: allOnes, want: allOnes - 1},
		{code: 0x14, a: 9, v: 4, want: 5},
		{code: 0x14, a: 0, v: 1, want: allOnes},
		{code: 0x14, a: 0, v: 0x80000000, want: 0x80000000},
		{code: 0x24, a: 6, v: 7, want: 42},
		{code: 0x24, a: 0x10000, v: 0x10000, want: 0},
		{code: 0x24, a: allOnes, v: allOnes, want: 1},
		{code: 0x34, a: 20, v: 7, want: 2},
		{code: 0x34, a: allOnes, v: 2, want: 0x7fffffff},
		{code: 0x34, a: 0x80000000, v: allOnes, want: 0},
		{code: 0x34, a: allOnes, v: 1, want: allOnes},
		{code: 0x34, a: 0, v: 5, want: 0},
		{code: 0x34, a: 9, v: 0, want: impl.RetDeny, byXOnly: true},
		{code: 0x34, a: 0, v: 0, want: impl.RetDeny, byXOnly: true},
		{code: 0x44, a: 0xf0f000ff, v: 0x0ff0ff00, want: 0xfff0ffff},
		{code: 0x54, a: 0xf0f000ff, v: 0x0ff0ff0f, want: 0x00f0000f},
		{code: 0xa4, a: 0xf0f000ff, v: 0x0ff0ff0f, want: 0xff00fff0},
		{code: 0x64, a: 0x80000003, v: 0, want: 0x80000003},
		{code: 0x64, a: 0x80000003, v: 1, want: 6},
		{code: 0x64, a: 3, v: 31, want: 0x80000000},
		{code: 0x64, a: allOnes, v: 32, want: 0, byXOnly: true},
		{code: 0x64, a: allOnes, v: 33, want: 0, byXOnly: true},
		{code: 0x64, a: allOnes, v: 64, want: 0, byXOnly: true},
		{code: 0x64, a: allOnes, v: 256, want: 0, byXOnly: true},
		{code: 0x64, a: allOnes, v: 0x80000000, want: 0, byXOnly: true},
		{code: 0x64, a: allOnes, v: allOnes, want: 0, byXOnly: true},
		{code: 0x74, a: 0x80000003, v: 0, want: 0x80000003},
		{code: 0x74, a: 0x80000003, v: 1, want: 0x40000001},
		{code: 0x74, a: 0xc0000000, v: 31, want: 1},
		{code: 0x74, a: allOnes, v: 32, want: 0, byXOnly: true},
		{code: 0x74, a: allOnes, v: 33, want: 0, byXOnly: true},
		{code: 0x74, a: allOnes, v: 64, want: 0, byXOnly: true},
		{code: 0x74, a: allOnes, v: 256, want: 0, byXOnly: true},
		{code: 0x74, a: allOnes, v: 0x80000000, want: 0, byXOnly: true},
		{code: 0x74, a: allOnes, v: allOnes, want: 0, byXOnly: true},
	}
	for _, c := range cases {
		name := fmt.Sprintf("%#x of %#x and %#x", c.code, c.a, c.v)
		if !c.byXOnly {
			// X and the fields that are not used hold other numbers.
			prog := program(byK(0x01, 0x1234), byK(0x00, c.a), branch(c.code, c.v, 200, 201), endA())
			wantRun(t, name+" by K", prog, c.want, 4)
		}
		prog := program(byK(0x01, c.v), byK(0x00, c.a), branch(c.code+8, 0x4321, 200, 201), endA())
		steps := 4
		if c.code == 0x34 && c.v == 0 {
			steps = 3
		}
		wantRun(t, name+" by X", prog, c.want, steps)
	}
}

// P3: a division by X = 0 ends the run there, whatever stands behind it.
func TestRunDivisionByZero(t *testing.T) {
	wantRun(t, "at the start", program(byK(0x3c, 5), endK(1)), impl.RetDeny, 1)
	wantRun(t, "after others", program(byK(0x00, 9), byK(0x01, 0), byK(0x3c, 1), endK(7)), impl.RetDeny, 3)
	wantRun(t, "skipped", program(byK(0x05, 1), byK(0x3c, 1), endK(7)), 7, 2)
}

// P3: the instructions with no second operand, whatever their K.
func TestRunOneOperand(t *testing.T) {
	for _, k := range []uint32{0, 8, 77, allOnes} {
		for _, a := range []uint32{0, 1, 5, 0x80000000, allOnes} {
			wantRun(t, fmt.Sprintf("0 - %#x", a), program(byK(0x00, a), branch(0x84, k, 9, 9), endA()), -a, 3)
			toX := program(byK(0x00, a), branch(0x07, k, 9, 9), byK(0x00, 3), branch(0x87, k, 9, 9), endA())
			wantRun(t, fmt.Sprintf("X = %#x and back", a), toX, a, 5)
		}
		wantRun(t, "A stays when X = A", program(byK(0x00, 6), byK(0x07, k), endA()), 6, 3)
		wantRun(t, "X stays when A = X", program(byK(0x01, 6), byK(0x87, k), byK(0x0c, k), endA()), 12, 4)
		wantRun(t, "the result is A", program(byK(0x00, 6), branch(0x16, k, 9, 9)), 6, 2)
		wantRun(t, "the result is K", program(byK(0x00, 6), branch(0x06, k, 9, 9)), k, 2)
		wantRun(t, "A is 0 at the start", program(byK(0x16, k)), 0, 1)
		wantRun(t, "X is 0 at the start", program(byK(0x00, 6), byK(0x87, k), endA()), 0, 3)
	}
	for _, k := range []uint32{0, 1, 0x80000000, allOnes} {
		wantRun(t, "A = K", program(byK(0x01, 3), branch(0x00, k, 9, 9), endA()), k, 3)
		wantRun(t, "X = K", program(byK(0x00, 3), branch(0x01, k, 9, 9), byK(0x87, 0), endA()), k, 4)
		wantRun(t, "X = K leaves A", program(byK(0x00, 3), byK(0x01, k), endA()), 3, 3)
	}
}

// P3: loads take four bytes, the lowest first, at each place that is allowed.
func TestRunLoads(t *testing.T) {
	rec := countingRecord()
	for k := 0; k <= 60; k += 4 {
		want := uint32(rec[k]) + uint32(rec[k+1])<<8 + uint32(rec[k+2])<<16 + uint32(rec[k+3])<<24
		wantRun(t, fmt.Sprintf("load %d", k), program(byK(0x00, 7), branch(0x20, uint32(k), 9, 9), endA()), want, 3)
	}
	wantRun(t, "the first bytes", program(byK(0x20, 0), endA()), 0x8a878481, 2)
	wantRun(t, "the last bytes", program(byK(0x20, 60), endA()), 0x3e3b3835, 2)
	wantRun(t, "a load leaves X", program(byK(0x01, 5), byK(0x20, 60), byK(0x87, 0), endA()), 5, 4)
}

// P3: each memory word is 0 at the start and apart from the others, from both registers and to both.
func TestRunMemory(t *testing.T) {
	for k := uint32(0); k < impl.MemWords; k++ {
		name := fmt.Sprintf("M[%d]", k)
		wantRun(t, name+" at the start", program(byK(0x00, 9), byK(0x60, k), endA()), 0, 3)
		wantRun(t, name+" at the start in X", program(byK(0x01, 9), byK(0x61, k), byK(0x87, 0), endA()), 0, 4)
		fromA := program(byK(0x00, 0x80000001), byK(0x01, 4), branch(0x02, k, 9, 9), byK(0x00, 5), branch(0x60, k, 9, 9), endA())
		wantRun(t, name+" from A to A", fromA, 0x80000001, 6)
		fromX := program(byK(0x00, 4), byK(0x01, 0x80000001), branch(0x03, k, 9, 9), byK(0x01, 5), branch(0x61, k, 9, 9), byK(0x87, 0), endA())
		wantRun(t, name+" from X to X", fromX, 0x80000001, 7)
		wantRun(t, name+" leaves A when stored", program(byK(0x00, 4), byK(0x02, k), endA()), 4, 3)
		wantRun(t, name+" leaves A when X gets it", program(byK(0x00, 4), byK(0x61, k), endA()), 4, 3)
	}
	// Every word gets its own number; the sum of place * number tells whether they were kept apart.
	prog := program()
	want := uint32(0)
	for k := uint32(0); k < impl.MemWords; k++ {
		prog = append(prog, byK(0x00, 100+k*k), byK(0x02, k))
	}
	prog = append(prog, byK(0x01, 0))
	for k := uint32(0); k < impl.MemWords; k++ {
		prog = append(prog, byK(0x60, k), byK(0x24, k+1), byK(0x0c, 0), byK(0x07, 0))
		want += (100 + k*k) * (k + 1)
	}
	prog = append(prog, endA())
	wantRun(t, "all words", prog, want, len(prog))
}

// P3: every test, by K and by X, of unsigned numbers, both ways.
func TestRunTests(t *testing.T) {
	values := []uint32{0, 1, 2, 5, 6, 0x7fffffff, 0x80000000, 0x80000001, allOnes - 1, allOnes}
	holds := map[uint16]func(a, v uint32) bool{
		0x15: func(a, v uint32) bool { return a == v },
		0x25: func(a, v uint32) bool { return a > v },
		0x35: func(a, v uint32) bool { return a >= v },
		0x45: func(a, v uint32) bool { return a&v != 0 },
	}
	for code, held := range holds {
		for _, a := range values {
			for _, v := range values {
				want := uint32(5)
				if held(a, v) {
					want = 4
				}
				name := fmt.Sprintf("%#x of %#x and %#x", code, a, v)
				ends := program(endK(3), endK(4), endK(5), endK(6))
				onK := program(byK(0x00, a), byK(0x01, ^v), branch(code, v, 1, 2))
				wantRun(t, name+" by K", append(onK, ends...), want, 4)
				onX := program(byK(0x00, a), byK(0x01, v), branch(code+8, ^v, 1, 2))
				wantRun(t, name+" by X", append(onX, ends...), want, 4)
			}
		}
	}
}

// P3: a test and a jump leave both registers as they are.
func TestRunJumpsKeepRegisters(t *testing.T) {
	for _, code := range append([]uint16{0x05}, testCodes...) {
		prog := program(byK(0x00, 1000), byK(0x01, 24), branch(code, 0, 0, 0), byK(0x0c, 0), endA())
		wantRun(t, fmt.Sprintf("%#x", code), prog, 1024, 5)
	}
	wantRun(t, "0x05 with Jt and Jf", program(branch(0x05, 1, 200, 201), endK(1), endK(2), endK(3)), 2, 2)
}
