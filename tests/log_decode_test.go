package tests

import (
	"bytes"
	"slices"
	"testing"

	"loop.example/s0039/impl"
)

// P5: there and back.
func TestDecodeLogOfEncodeLog(t *testing.T) {
	cases := [][]impl.Call{
		nil,
		{zeroCall()},
		{zeroCall(), zeroCall(), call(1, 2, 3, 4, 5, 6, 7, 8), zeroCall()},
		{call(allOnes, allOnes, allOnes64, allOnes64, allOnes64, allOnes64, allOnes64, allOnes64)},
		edgeCalls(),
		manyCalls(255), manyCalls(256), manyCalls(257),
		manyCalls(impl.MaxCalls - 1), manyCalls(impl.MaxCalls),
	}
	for _, calls := range cases {
		wantCalls(t, "there and back", impl.EncodeLog(calls), calls)
	}
}

// P5, chapter 2.4: logs that EncodeLog has not made.
func TestDecodeLogByHand(t *testing.T) {
	wantCalls(t, "no calls", []byte{67, 76, 79, 71, 1, 0, 0}, nil)
	wantCalls(t, "the number 300", logOf(body([]byte{172, 2}, zeros(7))), []impl.Call{call(300, 0, 0, 0, 0, 0, 0, 0)})
	wantCalls(t, "in order", logOf([]byte{1, 2, 3, 4, 5, 6, 7, 8}), []impl.Call{call(1, 2, 3, 4, 5, 6, 7, 8)})
	for _, c := range edgeCalls() {
		wantCalls(t, "edges", logOf(bodyOfCall(c)), []impl.Call{c})
	}
}

// P5, chapter 2.4, 1: fewer bytes than the head has, whatever they hold.
func TestDecodeLogOfFewBytes(t *testing.T) {
	for n := range 7 {
		wantLogFault(t, "the beginning of a log", logHead(1)[:n], impl.CodeShort, n)
		wantLogFault(t, "other bytes", bytes.Repeat([]byte{9}, n), impl.CodeShort, n)
	}
	wantLogFault(t, "nil", nil, impl.CodeShort, 0)
}

// P5, chapter 2.4, 2 to 4: each fault of the head, and two at once.
func TestDecodeLogHead(t *testing.T) {
	good := logOf(zeros(8))
	for at := range 4 {
		for _, to := range []byte{0, good[at] + 1, good[at] ^ 32, 255} {
			wrong := with(good, at, to)
			wantLogFault(t, "one wrong byte", wrong, impl.CodeHeader, at)
			for next := at + 1; next < 4; next++ {
				wantLogFault(t, "two wrong bytes", with(wrong, next, 0), impl.CodeHeader, at)
			}
			wantLogFault(t, "a wrong byte and another version", with(wrong, 4, 2), impl.CodeHeader, at)
			wantLogFault(t, "a wrong byte and too many calls", with(wrong, 6, 255), impl.CodeHeader, at)
			wantLogFault(t, "a wrong byte and no more than the head", wrong[:7], impl.CodeHeader, at)
		}
	}
	for _, version := range []byte{0, 2, 128, 255} {
		wantLogFault(t, "another version", with(good, 4, version), impl.CodeVersion, 4)
		wantLogFault(t, "another version and too many calls", with(with(good, 4, version), 6, 4), impl.CodeVersion, 4)
	}
}

// P5, chapter 2.4, 4: the number of calls at its limit.
func TestDecodeLogCount(t *testing.T) {
	for _, n := range []int{1001, 1023, 1024, 1255, 32768, 65535} {
		wantLogFault(t, "too many calls", logHead(n), impl.CodeCount, 5)
		wantLogFault(t, "too many calls and a wrong length", append(logHead(n), 0), impl.CodeCount, 5)
	}
	for _, n := range []int{1, 255, 256, 999, 1000} {
		wantLogFault(t, "calls that are not there", logHead(n), impl.CodeShort, 7)
	}
	full := impl.EncodeLog(manyCalls(1000))
	full[5], full[6] = 0xe9, 3
	wantLogFault(t, "1001 as the number of a thousand calls", full, impl.CodeCount, 5)
}

// P5, chapter 2.4, 5: no byte where a call is to begin.
func TestDecodeLogWithoutNextCall(t *testing.T) {
	one := part(zeros(8))
	wantLogFault(t, "the second of two", slices.Concat(logHead(2), one), impl.CodeShort, 20)
	wantLogFault(t, "the third of three", slices.Concat(logHead(3), one, one), impl.CodeShort, 33)
}

// P5, chapter 2.4, 5: the length of the body at its limits.
func TestDecodeLogLength(t *testing.T) {
	longest := body(longNumber(5, 15), longNumber(5, 15), longNumber(10, 1), longNumber(10, 1), longNumber(10, 1),
		longNumber(10, 1), longNumber(10, 1), longNumber(10, 1))
	if len(longest) != impl.MaxBody {
		t.Fatalf("the longest body has %d bytes", len(longest))
	}
	wantCalls(t, "MinBody", logOf(zeros(impl.MinBody)), []impl.Call{zeroCall()})
	wantCalls(t, "MaxBody", logOf(longest), []impl.Call{
		call(allOnes, allOnes, allOnes64, allOnes64, allOnes64, allOnes64, allOnes64, allOnes64),
	})
	for _, m := range []int{0, 1, impl.MinBody - 1, impl.MaxBody + 1, 128, 255} {
		wantLogFault(t, "a body that is there", logOf(zeros(m)), impl.CodeLength, 7)
		wantLogFault(t, "the last byte", append(logHead(1), byte(m)), impl.CodeLength, 7)
		wantLogFault(t, "the last byte of the second call", slices.Concat(logHead(2), part(zeros(8)), []byte{byte(m)}), impl.CodeLength, 20)
	}
	for _, m := range []int{impl.MinBody, impl.MaxBody} {
		wantLogFault(t, "the last byte", append(logHead(1), byte(m)), impl.CodeShort, 8)
	}
}

// P5, chapter 2.4, 5: a log that is cut off anywhere in its calls.
func TestDecodeLogCutOff(t *testing.T) {
	calls := []impl.Call{zeroCall(), call(1, 300, allOnes64, 0, 0, 0, 0, 0)}
	log := impl.EncodeLog(calls)
	for n := 7; n < len(log); n++ {
		wantLogFault(t, "cut off", log[:n], impl.CodeShort, n)
	}
}

// P5, chapter 2.4, 5: too short goes before a checksum that does not fit.
func TestDecodeLogShortAndWrongSum(t *testing.T) {
	log := logOf(zeros(8))
	wantLogFault(t, "a length one too great", with(log, 7, 9), impl.CodeShort, 20)
	wantLogFault(t, "the last byte gone and a wrong body", with(log, 9, 1)[:19], impl.CodeShort, 19)
	wantLogFault(t, "only half a body, and none", append(logHead(1), 8, 128, 0, 0, 0), impl.CodeShort, 12)
}

// P5, chapter 2.4, 5: the checksum, looked at before the body.
func TestDecodeLogSum(t *testing.T) {
	log := logOf(zeros(8), zeros(8))
	for at := 8; at < 20; at++ {
		wantLogFault(t, "first call", with(log, at, log[at]^64), impl.CodeSum, 16)
		wantLogFault(t, "second call", with(log, at+13, log[at+13]^64), impl.CodeSum, 29)
	}
	wantLogFault(t, "a length that is one too small", with(logOf(body([]byte{128, 1}, zeros(7))), 7, 8), impl.CodeSum, 16)
	longer := logOf(zeros(30))
	wantLogFault(t, "behind a longer body", with(longer, 38, longer[38]^1), impl.CodeSum, 38)
	none := logOf(bytes.Repeat([]byte{255}, 8))
	wantLogFault(t, "a body that is none, and a wrong sum", with(none, 16, none[16]^1), impl.CodeSum, 16)
	wantLogFault(t, "a body that is none, and a sum that fits", none, impl.CodeBody, 8)
}

// P5, chapter 2.4, 5: bodies that are not eight numbers in their shortest form, each with a checksum that fits.
func TestDecodeLogBody(t *testing.T) {
	wrong := map[string][]byte{
		"seven numbers":                    body([]byte{128, 1}, zeros(6)),
		"nine numbers":                     zeros(9),
		"70 numbers":                       zeros(70),
		"the eighth number without an end": body(zeros(7), []byte{128}),
		"no number with an end":            bytes.Repeat([]byte{128}, 8),
		"a byte left over":                 body([]byte{172, 2}, zeros(7), []byte{1}),
		"Arch at 2^32":                     body(shortest(1<<32), zeros(7)),
		"Nr at 2^32":                       body(zeros(1), shortest(1<<32), zeros(6)),
		"Arch at all ones of 64 bits":      body(shortest(allOnes64), zeros(7)),
		"Nr at 2^63":                       body(zeros(1), shortest(1<<63), zeros(6)),
	}
	for name, b := range wrong {
		wantLogFault(t, name, logOf(b), impl.CodeBody, 8)
		wantLogFault(t, name+", in a second call", logOf(zeros(8), b), impl.CodeBody, 21)
	}
}

// P5, chapter 2.4, 5: a number that is longer than needed, or too great, at every place of a body.
func TestDecodeLogNumbers(t *testing.T) {
	for place := range 8 {
		at := func(number ...byte) []byte {
			return logOf(body(zeros(place), number, zeros(7-place)))
		}
		for n := 1; n <= 12; n++ {
			wantLogFault(t, "a last byte 0 behind bytes 128", at(append(bytes.Repeat([]byte{128}, n), 0)...), impl.CodeBody, 8)
			wantLogFault(t, "a last byte 0 behind bytes 255", at(longNumber(n+1, 0)...), impl.CodeBody, 8)
		}
		wantLogFault(t, "eleven bytes", at(longNumber(11, 1)...), impl.CodeBody, 8)
		wantLogFault(t, "eleven bytes, ten of them 128", at(append(bytes.Repeat([]byte{128}, 10), 1)...), impl.CodeBody, 8)
		wantLogFault(t, "twelve bytes", at(append(bytes.Repeat([]byte{128}, 11), 127)...), impl.CodeBody, 8)
		for last := 2; last < 128; last++ {
			wantLogFault(t, "the tenth byte too great", at(longNumber(10, byte(last))...), impl.CodeBody, 8)
		}
		tenth := at(longNumber(10, 1)...)
		if place < 2 {
			wantLogFault(t, "ten bytes", tenth, impl.CodeBody, 8)
			wantLogFault(t, "the fifth byte too great", at(longNumber(5, 16)...), impl.CodeBody, 8)
			continue
		}
		want := zeroCall()
		want.Args[place-2] = allOnes64
		wantCalls(t, "the tenth byte 1", tenth, []impl.Call{want})
		want.Args[place-2] = 1 << 63
		wantCalls(t, "2^63", at(append(bytes.Repeat([]byte{128}, 9), 1)...), []impl.Call{want})
	}
}

// P5, chapter 2.4, 6: bytes after the last call.
func TestDecodeLogExtra(t *testing.T) {
	one := part(zeros(8))
	wantLogFault(t, "after no call", append(logHead(0), 0), impl.CodeExtra, 7)
	wantLogFault(t, "a call after no call", slices.Concat(logHead(0), one), impl.CodeExtra, 7)
	wantLogFault(t, "one byte", append(logOf(zeros(8)), 0), impl.CodeExtra, 20)
	wantLogFault(t, "a second call", slices.Concat(logHead(1), one, one), impl.CodeExtra, 20)
	wantLogFault(t, "many bytes after two calls", append(logOf(zeros(8), zeros(8)), zeros(1000)...), impl.CodeExtra, 33)
	wantLogFault(t, "a wrong sum goes before", append(with(logOf(zeros(8)), 8, 1), 0), impl.CodeSum, 16)
}

// Rules for all chapters: DecodeLog leaves its argument as it is, and its lists are new memory, each its own.
func TestDecodeLogMemory(t *testing.T) {
	log := impl.EncodeLog(manyCalls(3))
	before := slices.Clone(log)
	first, _, _ := impl.DecodeLog(log)
	second, _, _ := impl.DecodeLog(log)
	if !bytes.Equal(log, before) {
		t.Error("DecodeLog wrote into its argument")
	}
	clear(log)
	for i := range second {
		clear(second[i].Args[:cap(second[i].Args)])
	}
	if !sameCalls(first, manyCalls(3)) {
		t.Errorf("the calls share memory with the log or with another answer: %v", first)
	}
	first[0].Args = append(first[0].Args, 77)
	clear(first[0].Args)
	if !sameCalls(first[1:], manyCalls(3)[1:]) {
		t.Errorf("lists of one answer share memory: %v", first)
	}
}
