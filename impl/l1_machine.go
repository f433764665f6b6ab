package impl

const (
	CodeOK = iota
	CodeBad
	CodeHeader
	CodeVersion
	CodeCount
	CodeShort
	CodeLength
	CodeSum
	CodeBody
	CodeExtra
	CodeTooLarge
)

const (
	FaultNone = iota
	FaultSize
	FaultCode
	FaultLoad
	FaultMemory
	FaultJump
	FaultOperand
	FaultEnd
)

const (
	MaxProgram = 4096
	MemWords   = 16
	RecordSize = 64
	RetAllow   = 0x7fff0000
	RetDeny    = 0x80000000
)

// The machine's table of instructions. A last K or X in a name tells where the
// second operand comes from; a last A or X after Set, Get, Put, Copy or End
// names the register.
const (
	opSetA     = 0x00
	opSetX     = 0x01
	opLoad     = 0x20
	opGetA     = 0x60
	opGetX     = 0x61
	opPutA     = 0x02
	opPutX     = 0x03
	opAddK     = 0x04
	opAddX     = 0x0c
	opSubK     = 0x14
	opSubX     = 0x1c
	opMulK     = 0x24
	opMulX     = 0x2c
	opDivK     = 0x34
	opDivX     = 0x3c
	opOrK      = 0x44
	opOrX      = 0x4c
	opAndK     = 0x54
	opAndX     = 0x5c
	opXorK     = 0xa4
	opXorX     = 0xac
	opLeftK    = 0x64
	opLeftX    = 0x6c
	opRightK   = 0x74
	opRightX   = 0x7c
	opNegate   = 0x84
	opCopyX    = 0x07
	opCopyA    = 0x87
	opSkip     = 0x05
	opEqualK   = 0x15
	opEqualX   = 0x1d
	opAboveK   = 0x25
	opAboveX   = 0x2d
	opAtLeastK = 0x35
	opAtLeastX = 0x3d
	opBitsK    = 0x45
	opBitsX    = 0x4d
	opEndK     = 0x06
	opEndA     = 0x16
)

const (
	withX     = 0x08 // set in exactly those codes of the table whose second operand is X
	lastLoad  = RecordSize - 4
	wordBits  = 32
	insLength = 8
)

// Ins is one instruction of the filter machine.
type Ins struct {
	Code uint16
	Jt   uint8
	Jf   uint8
	K    uint32
}

// Validate answers the first fault of the program and the index where it stands.
func Validate(prog []Ins) (int, int) {
	if len(prog) == 0 || len(prog) > MaxProgram {
		return FaultSize, 0
	}
	for i, ins := range prog {
		fault := faultOf(ins, len(prog)-1-i)
		if fault != FaultNone {
			return fault, i
		}
	}
	return FaultNone, 0
}

// faultOf takes the number of instructions that follow in place of an index: a
// jump held against it can't run over, however great K is.
func faultOf(ins Ins, after int) int {
	switch {
	case !isKnown(ins.Code):
		return FaultCode
	case ins.Code == opLoad && (ins.K%4 != 0 || ins.K > lastLoad):
		return FaultLoad
	case usesMemory(ins.Code) && ins.K >= MemWords:
		return FaultMemory
	case jumpsOver(ins, uint32(after)):
		return FaultJump
	case hasBadOperand(ins):
		return FaultOperand
	case after == 0 && ins.Code != opEndK && ins.Code != opEndA:
		return FaultEnd
	}
	return FaultNone
}

func isKnown(code uint16) bool {
	switch code {
	case opSetA, opSetX, opLoad, opCopyX, opCopyA, opSkip, opEndK, opEndA:
		return true
	}
	return usesMemory(code) || isArithmetic(code) || isTest(code)
}

func usesMemory(code uint16) bool {
	switch code {
	case opGetA, opGetX, opPutA, opPutX:
		return true
	}
	return false
}

func isArithmetic(code uint16) bool {
	switch code {
	case opAddK, opSubK, opMulK, opDivK, opOrK, opAndK, opXorK, opLeftK, opRightK,
		opAddX, opSubX, opMulX, opDivX, opOrX, opAndX, opXorX, opLeftX, opRightX, opNegate:
		return true
	}
	return false
}

func isTest(code uint16) bool {
	switch code {
	case opEqualK, opAboveK, opAtLeastK, opBitsK, opEqualX, opAboveX, opAtLeastX, opBitsX:
		return true
	}
	return false
}

func jumpsOver(ins Ins, after uint32) bool {
	if isTest(ins.Code) {
		return uint32(ins.Jt) >= after || uint32(ins.Jf) >= after
	}
	return ins.Code == opSkip && ins.K >= after
}

func hasBadOperand(ins Ins) bool {
	switch ins.Code {
	case opDivK:
		return ins.K == 0
	case opLeftK, opRightK:
		return ins.K >= wordBits
	}
	return false
}

// Run carries out the program on the record and answers the result, the number
// of steps and a code.
func Run(prog []Ins, rec []byte) (uint32, int, int) {
	fault, _ := Validate(prog)
	if fault != FaultNone || len(rec) != RecordSize {
		return 0, 0, CodeBad
	}
	m := machine{rec: rec}
	m.run(prog)
	return m.result, m.steps, CodeOK
}

// machine is one run of a valid program on a record.
type machine struct {
	a      uint32
	x      uint32
	mem    [MemWords]uint32
	rec    []byte
	next   int
	steps  int
	ended  bool
	result uint32
}

// run ends because a valid program jumps forward only, and never past its last
// instruction, which ends the run.
func (m *machine) run(prog []Ins) {
	for !m.ended {
		ins := prog[m.next]
		m.next++
		m.steps++
		m.step(ins, m.operand(ins))
	}
}

// operand answers the value that the instruction works with, so that step need
// not tell apart where it comes from.
func (m *machine) operand(ins Ins) uint32 {
	if ins.Code == opLoad {
		return m.recordWord(int(ins.K))
	}
	if ins.Code == opGetA || ins.Code == opGetX {
		return m.mem[ins.K]
	}
	if ins.Code&withX != 0 {
		return m.x
	}
	return ins.K
}

func (m *machine) recordWord(at int) uint32 {
	return wordOf(m.rec[at : at+4])
}

func (m *machine) step(ins Ins, v uint32) {
	switch ins.Code {
	case opSetA, opLoad, opGetA:
		m.a = v
	case opSetX, opGetX:
		m.x = v
	case opPutA:
		m.mem[ins.K] = m.a
	case opPutX:
		m.mem[ins.K] = m.x
	case opAddK, opAddX:
		m.a += v
	case opSubK, opSubX:
		m.a -= v
	case opMulK, opMulX:
		m.a *= v
	case opDivK, opDivX:
		m.divide(v)
	case opOrK, opOrX:
		m.a |= v
	case opAndK, opAndX:
		m.a &= v
	case opXorK, opXorX:
		m.a ^= v
	case opLeftK, opLeftX:
		m.a <<= v
	case opRightK, opRightX:
		m.a >>= v
	case opNegate:
		m.a = -m.a
	case opCopyX:
		m.x = m.a
	case opCopyA:
		m.a = m.x
	case opSkip:
		m.next += int(ins.K)
	case opEqualK:
		fallthrough
	case opEqualX:
		m.branch(ins, m.a == v)
	case opAboveK:
		fallthrough
	case opAboveX:
		m.branch(ins, m.a > v)
	case opAtLeastK:
		fallthrough
	case opAtLeastX:
		m.branch(ins, m.a >= v)
	case opBitsK:
		fallthrough
	case opBitsX:
		m.branch(ins, m.a&v != 0)
	case opEndK:
		m.end(ins.K)
	case opEndA:
		m.end(m.a)
	}
}

// divide denies a division by 0; only X can bring one, as Validate bars K = 0.
func (m *machine) divide(v uint32) {
	if v == 0 {
		m.end(RetDeny)
		return
	}
	m.a /= v
}

func (m *machine) branch(ins Ins, holds bool) {
	if holds {
		m.next += int(ins.Jt)
		return
	}
	m.next += int(ins.Jf)
}

func (m *machine) end(result uint32) {
	m.ended = true
	m.result = result
}

// EncodeProgram answers the bytes of the instructions, valid or not.
func EncodeProgram(prog []Ins) []byte {
	out := make([]byte, 0, insLength*len(prog))
	for _, ins := range prog {
		out = append(out, byte(ins.Code), byte(ins.Code>>8), ins.Jt, ins.Jf)
		out = append(out, byte(ins.K), byte(ins.K>>8), byte(ins.K>>16), byte(ins.K>>24))
	}
	return out
}

// DecodeProgram answers the instructions that the bytes tell, valid or not, and
// a code.
func DecodeProgram(b []byte) ([]Ins, int) {
	if len(b)%insLength != 0 || len(b) > insLength*MaxProgram {
		return nil, CodeBad
	}
	out := make([]Ins, 0, len(b)/insLength)
	for at := 0; at < len(b); at += insLength {
		out = append(out, insOf(b[at:at+insLength]))
	}
	return out, CodeOK
}

func insOf(b []byte) Ins {
	return Ins{
		Code: uint16(b[0]) | uint16(b[1])<<8,
		Jt:   b[2],
		Jf:   b[3],
		K:    wordOf(b[4:8]),
	}
}

// wordOf answers the number whose four bytes are given, the lowest first.
func wordOf(b []byte) uint32 {
	return uint32(b[0]) | uint32(b[1])<<8 | uint32(b[2])<<16 | uint32(b[3])<<24
}
