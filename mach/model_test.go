package mach_test

import (
	"encoding/binary"
	"math/big"
	"math/rand"

	"hauberk/api"
	"hauberk/code"
	"hauberk/num"
)

// model is the chapter's machine once more, written apart from the program: one big step, addresses as numbers without end.
type model struct {
	memory    []byte
	registers [32]uint64
	place     uint64
	state     int
	code      byte
	in        []byte
	result    api.Result
	seen      []api.Access
}

func whole(a uint64) *big.Int { return new(big.Int).SetUint64(a) }

// stands tells whether a number's n bytes stand in the memory, at a multiple of n.
func (m *model) stands(at uint64, n int64) bool {
	end := new(big.Int).Add(whole(at), big.NewInt(n))
	rest := new(big.Int).Mod(whole(at), big.NewInt(n))
	return rest.Sign() == 0 && end.Cmp(big.NewInt(int64(len(m.memory)))) <= 0
}

// run makes at most so many steps, with this input.
func (m *model) run(input []byte, fuel int) (api.Result, []api.Access) {
	m.in, m.result, m.seen = input, api.Result{}, nil
	for k := 0; k < fuel && m.state == api.Running; k++ {
		if m.step() {
			m.result.Steps++
		} else {
			m.state = api.Fault
		}
	}
	m.result.State, m.result.Code = m.state, m.code
	return m.result, m.seen
}

func (m *model) step() bool {
	if !m.stands(m.place, 4) {
		return false
	}
	i, e := code.Decode(binary.LittleEndian.Uint32(m.memory[m.place:]))
	if e != api.OK {
		return false
	}
	a, b := m.registers[i.Rs1], m.registers[i.Rs2]
	imm := uint64(int64(i.Imm))
	here, next := m.place, m.place+4
	answer, answers := uint64(0), true
	switch i.Op {
	case api.ADDI, api.SLTI, api.SLTIU, api.XORI, api.ORI, api.ANDI, api.SLLI, api.SRLI, api.SRAI, api.ADDIW:
		answer = immediate(i.Op, a, imm)
	case api.LB, api.LBU, api.LW, api.LD:
		if !m.stands(a+imm, widths[i.Op]) {
			return false
		}
		answer = m.load(i.Op, a+imm)
		m.seen = append(m.seen, api.Access{Place: here, At: a + imm, Size: int(widths[i.Op])})
	case api.SB, api.SW, api.SD:
		answers = false
		if !m.stands(a+imm, widths[i.Op]) {
			return false
		}
		bytes := binary.LittleEndian.AppendUint64(nil, b)
		copy(m.memory[a+imm:], bytes[:widths[i.Op]])
		m.seen = append(m.seen, api.Access{Place: here, At: a + imm, Size: int(widths[i.Op]), Write: true})
	case api.BEQ, api.BNE, api.BLT, api.BGE, api.BLTU, api.BGEU:
		answers = false
		if taken(i.Op, a, b) {
			next = here + imm
		}
	case api.LUI:
		answer = imm << 12
	case api.AUIPC:
		answer = imm<<12 + here
	case api.JAL:
		answer, next = here+4, here+imm
	case api.JALR:
		answer, next = here+4, (a+imm)/2*2
	case api.ECALL:
		answers = false
		if !m.call() {
			return false
		}
	default:
		answer, _ = num.Do(i.Op, a, b)
	}
	if i.Op == api.ADDI && i.Rd == 0 && i.Rs1 == 0 && i.Imm == 1 {
		m.result.Checks++
	}
	if answers && i.Rd != 0 {
		m.registers[i.Rd] = answer
	}
	m.place = next
	return true
}

var widths = map[int]int64{api.LB: 1, api.LBU: 1, api.LW: 4, api.LD: 8, api.SB: 1, api.SW: 4, api.SD: 8}

func immediate(op int, a, b uint64) uint64 {
	switch op {
	case api.ADDI:
		return a + b
	case api.SLTI:
		if int64(a) < int64(b) {
			return 1
		}
		return 0
	case api.SLTIU:
		if a < b {
			return 1
		}
		return 0
	case api.XORI:
		return a ^ b
	case api.ORI:
		return a | b
	case api.ANDI:
		return a & b
	case api.SLLI:
		return a << b
	case api.SRLI:
		return a >> b
	case api.SRAI:
		return uint64(int64(a) >> b)
	}
	return uint64(int64(int32(a + b)))
}

func (m *model) load(op int, at uint64) uint64 {
	switch op {
	case api.LB:
		return uint64(int8(m.memory[at]))
	case api.LBU:
		return uint64(m.memory[at])
	case api.LW:
		return uint64(int32(binary.LittleEndian.Uint32(m.memory[at:])))
	}
	return binary.LittleEndian.Uint64(m.memory[at:])
}

func taken(op int, a, b uint64) bool {
	return map[int]bool{
		api.BEQ: a == b, api.BNE: a != b, api.BLT: int64(a) < int64(b), api.BGE: int64(a) >= int64(b),
		api.BLTU: a < b, api.BGEU: a >= b,
	}[op]
}

func (m *model) call() bool {
	switch m.registers[17] {
	case 1:
		m.result.Out = append(m.result.Out, byte(m.registers[10]))
	case 2:
		m.registers[10] = 1<<64 - 1
		if len(m.in) > 0 {
			m.registers[10] = uint64(m.in[0])
			m.in = m.in[1:]
		}
	case 3:
		m.state, m.code = api.Exit, byte(m.registers[10])
	case 4:
		m.state = api.Trap
	case 5:
		m.state = api.NoRoom
	default:
		return false
	}
	return true
}

// The registers of random programs that hold addresses of the data, which stands behind the text; most instructions leave them alone.
const (
	pointers = 4
	textSize = 160
	dataSize = 97 // so that the memory's size is a multiple of nothing
)

// sample is a random program, and what its registers are at first.
type sample struct {
	text      []byte
	registers [32]uint64
	place     uint64
	input     []byte
}

func newSample(r *rand.Rand) sample {
	s := sample{input: make([]byte, r.Intn(6))}
	r.Read(s.input)
	for len(s.text) < textSize {
		w, e := code.Encode(anyInstr(r))
		if e == api.OK {
			s.text = binary.LittleEndian.AppendUint32(s.text, w)
		}
	}
	for k := 1; k < 32; k++ {
		s.registers[k] = r.Uint64() >> r.Intn(64)
	}
	for k := 1; k <= pointers; k++ {
		s.registers[k] = uint64(textSize + 8*r.Intn(dataSize/8))
	}
	s.registers[17] = uint64(1 + r.Intn(2))
	s.place = uint64(4 * r.Intn(textSize/4))
	return s
}

// anyInstr is an instruction that mostly goes well, in a program that mostly goes on.
func anyInstr(r *rand.Rand) api.Instr {
	rd, rs1, rs2 := pointers+1+r.Intn(31-pointers), r.Intn(32), r.Intn(32)
	if rd == 17 || r.Intn(12) == 0 {
		rd = 0
	}
	switch r.Intn(10) {
	case 0, 1:
		return api.Instr{Op: api.ADD + r.Intn(api.REMUW), Rd: rd, Rs1: rs1, Rs2: rs2}
	case 2:
		return api.Instr{Op: api.ADDI + r.Intn(10), Rd: rd, Rs1: rs1, Imm: r.Intn(64)}
	case 3:
		return api.Instr{Op: []int{api.ADDI, api.SLTI, api.SLTIU, api.XORI, api.ORI, api.ANDI, api.ADDIW}[r.Intn(7)], Rd: rd, Rs1: rs1, Imm: r.Intn(4096) - 2048}
	case 4:
		return api.Instr{Op: api.LB + r.Intn(4), Rd: rd, Rs1: 1 + r.Intn(pointers), Imm: offset(r)}
	case 5:
		return api.Instr{Op: api.SB + r.Intn(3), Rs1: 1 + r.Intn(pointers), Rs2: rs2, Imm: offset(r)}
	case 6:
		return api.Instr{Op: api.BEQ + r.Intn(6), Rs1: rs1, Rs2: rs2, Imm: 4 * (r.Intn(20) - 8)}
	case 7:
		return api.Instr{Op: []int{api.LUI, api.AUIPC}[r.Intn(2)], Rd: rd, Imm: r.Intn(1<<20) - 1<<19}
	case 8:
		return rareInstr(r, rd, rs1)
	}
	return api.Instr{Op: api.ADDI, Imm: 1}
}

// offset is one that is mostly a multiple of 8, and not far.
func offset(r *rand.Rand) int {
	if r.Intn(10) == 0 {
		return r.Intn(64) - 32
	}
	return 8 * (r.Intn(6) - 3)
}

// rareInstr is one that may end the run, or lead it anywhere.
func rareInstr(r *rand.Rand, rd, rs1 int) api.Instr {
	switch r.Intn(6) {
	case 0:
		return api.Instr{Op: api.JAL, Rd: rd, Imm: 4 * (r.Intn(20) - 8)}
	case 1:
		return api.Instr{Op: api.JALR, Rd: rd, Rs1: 0, Imm: 4*r.Intn(textSize/4) + r.Intn(8)/6}
	case 2:
		return api.Instr{Op: api.JALR, Rd: rd, Rs1: rs1, Imm: r.Intn(256) - 128}
	case 3:
		return api.Instr{Op: api.ADDI, Rd: 17, Imm: 1 + r.Intn(5)}
	}
	return api.Instr{Op: api.ECALL}
}
