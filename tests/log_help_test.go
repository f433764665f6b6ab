package tests

import (
	"bytes"
	"slices"
	"testing"

	"loop.example/s0039/impl"
)

const allOnes64 = 0xffffffffffffffff

// edgeNumbers stand on both sides of the places where a number gets one byte longer.
var edgeNumbers = []uint64{
	0, 1, 127, 128, 16383, 16384, 1<<21 - 1, 1 << 21, 1<<28 - 1, 1 << 28, 1<<32 - 1, 1 << 32, 1<<35 - 1, 1 << 35,
	1<<42 - 1, 1 << 42, 1<<49 - 1, 1 << 49, 1<<56 - 1, 1 << 56, 1<<63 - 1, 1 << 63, allOnes64 - 1, allOnes64,
}

func call(arch, nr uint32, args ...uint64) impl.Call {
	return impl.Call{Arch: arch, Nr: nr, Args: args}
}

func zeroCall() impl.Call {
	return call(0, 0, 0, 0, 0, 0, 0, 0)
}

// edgeCalls has every one of edgeNumbers at every place of a call where it fits.
func edgeCalls() []impl.Call {
	var out []impl.Call
	for _, v := range edgeNumbers {
		if v <= allOnes {
			out = append(out, call(uint32(v), 1, 2, 3, 4, 5, 6, 7), call(1, uint32(v), 2, 3, 4, 5, 6, 7))
		}
		for i := range 6 {
			c := call(1, 2, 3, 4, 5, 6, 7, 8)
			c.Args[i] = v
			out = append(out, c)
		}
	}
	return out
}

// manyCalls are n calls that all differ.
func manyCalls(n int) []impl.Call {
	out := make([]impl.Call, n)
	for i := range out {
		out[i] = call(uint32(i%3), uint32(i%50), uint64(i), uint64(i)<<7, uint64(i)<<20, uint64(i)<<40, uint64(i)<<54, 0)
	}
	return out
}

func copyCalls(calls []impl.Call) []impl.Call {
	out := make([]impl.Call, len(calls))
	for i, c := range calls {
		out[i] = impl.Call{Arch: c.Arch, Nr: c.Nr, Args: slices.Clone(c.Args)}
	}
	return out
}

func sameCalls(a, b []impl.Call) bool {
	return slices.EqualFunc(a, b, func(x, y impl.Call) bool {
		return x.Arch == y.Arch && x.Nr == y.Nr && slices.Equal(x.Args, y.Args)
	})
}

// shortest is the document's form of a number in a log.
func shortest(v uint64) []byte {
	var digits []byte
	for {
		digits = append(digits, byte(v%128))
		v /= 128
		if v == 0 {
			break
		}
	}
	for i := range digits[:len(digits)-1] {
		digits[i] += 128
	}
	return digits
}

func body(parts ...[]byte) []byte {
	return slices.Concat(parts...)
}

// zeros is n numbers 0.
func zeros(n int) []byte {
	return make([]byte, n)
}

// longNumber is a number of n bytes: all but the last have every bit set.
func longNumber(n int, last byte) []byte {
	return append(bytes.Repeat([]byte{255}, n-1), last)
}

// sumBytes works the checksum out by dividing polynomials, another way than the document's bytes and steps: the bits
// of the body, the lowest of each byte first, are a number in base x, and what is left of it is written backwards.
func sumBytes(b []byte) []byte {
	const divisor = 0x104c11db7
	rest := uint64(0)
	bit := func(v uint64) {
		rest = rest<<1 | v
		if rest>>32 == 1 {
			rest ^= divisor
		}
	}
	for i := range 8 * (len(b) + 4) {
		v := uint64(0)
		if i/8 < len(b) {
			v = uint64(b[i/8]>>(i%8)) & 1
		}
		if i < 32 {
			v ^= 1
		}
		bit(v)
	}
	out := make([]byte, 4)
	for i := range 32 {
		if rest>>(31-i)&1 == 0 {
			out[i/8] |= 1 << (i % 8)
		}
	}
	return out
}

func logHead(count int) []byte {
	return []byte{67, 76, 79, 71, 1, byte(count), byte(count >> 8)}
}

// part is what a log holds of one call: length, body and a checksum that fits.
func part(body []byte) []byte {
	return slices.Concat([]byte{byte(len(body))}, body, sumBytes(body))
}

// logOf is a log with the given bodies, whatever they hold.
func logOf(bodies ...[]byte) []byte {
	out := logHead(len(bodies))
	for _, b := range bodies {
		out = append(out, part(b)...)
	}
	return out
}

func bodyOfCall(c impl.Call) []byte {
	out := body(shortest(uint64(c.Arch)), shortest(uint64(c.Nr)))
	for _, arg := range c.Args {
		out = append(out, shortest(arg)...)
	}
	return out
}

// with is a copy of the bytes that has the given one at the given place.
func with(b []byte, at int, to byte) []byte {
	out := slices.Clone(b)
	out[at] = to
	return out
}

func wantLogFault(t *testing.T, name string, log []byte, code, at int) {
	t.Helper()
	calls, gotCode, gotAt := impl.DecodeLog(log)
	if gotCode != code || gotAt != at {
		t.Errorf("%s: code %d at %d, want %d at %d", name, gotCode, gotAt, code, at)
	}
	if len(calls) != 0 {
		t.Errorf("%s: %d calls beside code %d", name, len(calls), gotCode)
	}
}

func wantCalls(t *testing.T, name string, log []byte, want []impl.Call) {
	t.Helper()
	calls, code, at := impl.DecodeLog(log)
	if code != impl.CodeOK || at != 0 {
		t.Errorf("%s: code %d at %d, want CodeOK at 0", name, code, at)
		return
	}
	if !sameCalls(calls, want) {
		t.Errorf("%s: calls %v, want %v", name, calls, want)
	}
}
