package tests

import (
	"bytes"
	"encoding/binary"
	"hash/crc32"
	"slices"
	"testing"

	"loop.example/s0039/impl"
)

// expectedFault is chapter 2.4 written down another way, with the library's numbers and checksums.
func expectedFault(b []byte) (int, int) {
	if len(b) < 7 {
		return impl.CodeShort, len(b)
	}
	for i, c := range []byte("CLOG") {
		if b[i] != c {
			return impl.CodeHeader, i
		}
	}
	if b[4] != 1 {
		return impl.CodeVersion, 4
	}
	count := int(binary.LittleEndian.Uint16(b[5:]))
	if count > 1000 {
		return impl.CodeCount, 5
	}
	rest := b[7:]
	for range count {
		o := len(b) - len(rest)
		if len(rest) == 0 {
			return impl.CodeShort, len(b)
		}
		m := int(rest[0])
		if m < 8 || m > 70 {
			return impl.CodeLength, o
		}
		if len(rest)-1 < m+4 {
			return impl.CodeShort, len(b)
		}
		if crc32.ChecksumIEEE(rest[1:1+m]) != binary.LittleEndian.Uint32(rest[1+m:]) {
			return impl.CodeSum, o + 1 + m
		}
		if !isBody(rest[1 : 1+m]) {
			return impl.CodeBody, o + 1
		}
		rest = rest[1+m+4:]
	}
	if len(rest) > 0 {
		return impl.CodeExtra, len(b) - len(rest)
	}
	return impl.CodeOK, 0
}

// isBody reads eight numbers, writes them again and compares: a number that is not in its shortest form comes out
// shorter.
func isBody(b []byte) bool {
	var again []byte
	rest := b
	for i := range 8 {
		v, n := binary.Uvarint(rest)
		if n <= 0 || i < 2 && v > allOnes {
			return false
		}
		again = binary.AppendUvarint(again, v)
		rest = rest[n:]
	}
	return bytes.Equal(b, again)
}

// interesting are the bytes that stand at some edge of the log's form.
var interesting = []byte{0, 1, 2, 7, 8, 9, 15, 16, 70, 71, 127, 128, 129, 255}

func randomByte(n *numbers) byte {
	if n.below(2) == 0 {
		return interesting[n.below(len(interesting))]
	}
	return byte(n.next())
}

func randomNumber(n *numbers) uint64 {
	v := uint64(n.next())<<32 | uint64(n.next())
	return v >> n.below(65)
}

func randomCalls(n *numbers, most int) []impl.Call {
	out := make([]impl.Call, n.below(most+1))
	for i := range out {
		out[i] = call(uint32(randomNumber(n)), uint32(randomNumber(n)))
		for range 6 {
			out[i].Args = append(out[i].Args, randomNumber(n))
		}
	}
	return out
}

// randomBody is near to a body: eight numbers with one byte changed, put in or taken out.
func randomBody(n *numbers) []byte {
	var b []byte
	for range 8 {
		b = append(b, shortest(randomNumber(n)>>(32*n.below(2)))...)
	}
	return randomChange(n, b)
}

func randomChange(n *numbers, b []byte) []byte {
	if len(b) == 0 {
		return b
	}
	at := n.below(len(b))
	switch n.below(4) {
	case 0:
		return with(b, at, randomByte(n))
	case 1:
		return slices.Insert(slices.Clone(b), at, randomByte(n))
	case 2:
		return slices.Delete(slices.Clone(b), at, at+1)
	}
	return b
}

func checkAnswer(t *testing.T, log []byte) int {
	t.Helper()
	before := slices.Clone(log)
	calls, code, at := impl.DecodeLog(log)
	wantCode, wantAt := expectedFault(log)
	if code != wantCode || at != wantAt {
		t.Fatalf("log %v: code %d at %d, want %d at %d", log, code, at, wantCode, wantAt)
	}
	if code != impl.CodeOK && len(calls) != 0 {
		t.Fatalf("log %v: calls beside code %d", log, code)
	}
	if code == impl.CodeOK && !bytes.Equal(impl.EncodeLog(calls), log) {
		t.Fatalf("log %v: the log of its calls is another", log)
	}
	if !bytes.Equal(log, before) {
		t.Fatal("DecodeLog wrote into its argument")
	}
	return code
}

// P5: for every list of bytes either calls whose log it is, or the code and offset as stated.
func TestDecodeLogOfRandomBytes(t *testing.T) {
	n := &numbers{state: 5}
	met := make([]int, impl.CodeTooLarge+1)
	for range 20000 {
		calls := randomCalls(n, 3)
		log := impl.EncodeLog(calls)
		if code := checkAnswer(t, log); code != impl.CodeOK {
			t.Fatalf("the log of %v answers code %d", calls, code)
		}
		met[checkAnswer(t, randomChange(n, log))]++
		met[checkAnswer(t, randomChange(n, randomChange(n, log)))]++
		met[checkAnswer(t, logOf(randomBody(n), randomBody(n)))]++
		met[checkAnswer(t, randomChange(n, logHead(n.below(2000))))]++
	}
	for code := impl.CodeHeader; code <= impl.CodeExtra; code++ {
		if met[code] == 0 {
			t.Errorf("no log met code %d", code)
		}
	}
	if met[impl.CodeOK] == 0 {
		t.Error("no changed log was good")
	}
}
