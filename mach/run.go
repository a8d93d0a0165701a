package mach

import (
	"hauberk/api"
	"hauberk/code"
	"hauberk/num"
)

// What an ECALL does, by the number in register asked; what it is about stands in register given.
const (
	asked = 17
	given = 10

	putOut = 1
	takeIn = 2
	exit   = 3
	trap   = 4
	noRoom = 5
)

// operations are those of the instructions whose second number is their Imm.
var operations = [...]int{
	api.ADDI: api.ADD, api.SLTI: api.SLT, api.SLTIU: api.SLTU,
	api.XORI: api.XOR, api.ORI: api.OR, api.ANDI: api.AND,
	api.SLLI: api.SLL, api.SRLI: api.SRL, api.SRAI: api.SRA, api.ADDIW: api.ADDW,
}

// run is one run of a machine: what it will answer, what is left of the input, and the instructions of the words that it has come by. These are found by the word, not by the place, so a text that stores to itself is no special thing.
type run struct {
	*Mach
	api.Result
	input   []byte
	words   map[uint32]api.Instr
	watched bool
	seen    []api.Access
}

func (m *Mach) begin(input []byte) *run {
	return &run{Mach: m, input: input, words: map[uint32]api.Instr{}}
}

// steps makes so many steps, or as many as there are till the machine stops.
func (r *run) steps(fuel int) {
	for r.state == api.Running && r.Steps < fuel {
		if r.step() {
			r.Steps++
		} else {
			r.state = api.Fault
		}
	}
	r.State, r.Code = r.state, r.code
}

// step tells whether it could be made; one that couldn't has changed nothing.
func (r *run) step() bool {
	i, ok := r.instruction()
	if !ok {
		return false
	}
	a, b, n := r.Reg(i.Rs1), r.Reg(i.Rs2), num.Of(i.Imm)
	next := r.place + 4
	switch {
	case i.Op <= api.REMUW:
		r.operate(i.Op, i.Rd, a, b)
	case i.Op <= api.ADDIW:
		r.operate(operations[i.Op], i.Rd, a, n)
	case i.Op <= api.LD:
		ok = r.load(i.Op, i.Rd, a+n)
	case i.Op <= api.SD:
		ok = r.store(i.Op, a+n, b)
	case i.Op <= api.BGEU:
		if holds(i.Op, a, b) {
			next = r.place + n
		}
	case i.Op == api.LUI:
		r.Set(i.Rd, n*4096)
	case i.Op == api.AUIPC:
		r.Set(i.Rd, r.place+n*4096)
	case i.Op == api.JAL:
		r.Set(i.Rd, next)
		next = r.place + n
	case i.Op == api.JALR:
		r.Set(i.Rd, next)
		next = (a + n) &^ 1
	case i.Op == api.ECALL:
		ok = r.call()
	}
	if !ok {
		return false
	}
	if isMark(i) {
		r.Checks++
	}
	r.place = next
	return true
}

// instruction is that at the place, if there is one.
func (r *run) instruction() (api.Instr, bool) {
	if !r.has(r.place, 4) {
		return api.Instr{}, false
	}
	w := uint32(r.take(r.place, 4))
	if i, ok := r.words[w]; ok {
		return i, true
	}
	i, e := code.Decode(w)
	if e != api.OK {
		return api.Instr{}, false
	}
	r.words[w] = i
	return i, true
}

func isMark(i api.Instr) bool { return i == api.Instr{Op: api.ADDI, Imm: 1} }

// operate is asked of chapter 1's operations alone, so there is no error.
func (r *run) operate(op, rd int, a, b uint64) {
	x, _ := num.Do(op, a, b)
	r.Set(rd, x)
}

func (r *run) load(op, rd int, at uint64) bool {
	n := width(op)
	if !r.has(at, n) {
		return false
	}
	r.note(at, n, false)
	x, _ := num.Narrow(r.take(at, n), int(8*n), op != api.LBU)
	r.Set(rd, x)
	return true
}

func (r *run) store(op int, at, x uint64) bool {
	n := width(op)
	if !r.has(at, n) {
		return false
	}
	r.note(at, n, true)
	r.put(at, n, x)
	return true
}

// width is how many bytes are loaded or stored.
func width(op int) uint64 {
	switch op {
	case api.LB, api.LBU, api.SB:
		return 1
	case api.LW, api.SW:
		return 4
	}
	return 8
}

func (r *run) note(at, n uint64, write bool) {
	if r.watched {
		r.seen = append(r.seen, api.Access{Place: r.place, At: at, Size: int(n), Write: write})
	}
}

// holds tells whether a branch is taken.
func holds(op int, a, b uint64) bool {
	switch op {
	case api.BEQ:
		return a == b
	case api.BNE:
		return a != b
	case api.BLT:
		return num.Signed(a) < num.Signed(b)
	case api.BGE:
		return num.Signed(a) >= num.Signed(b)
	case api.BLTU:
		return a < b
	}
	return a >= b
}

// call does an ECALL; it tells whether there is such a one.
func (r *run) call() bool {
	switch r.Reg(asked) {
	case putOut:
		r.Out = append(r.Out, byte(r.Reg(given)))
	case takeIn:
		r.Set(given, r.nextByte())
	case exit:
		r.state, r.code = api.Exit, byte(r.Reg(given))
	case trap:
		r.state = api.Trap
	case noRoom:
		r.state = api.NoRoom
	default:
		return false
	}
	return true
}

func (r *run) nextByte() uint64 {
	if len(r.input) == 0 {
		return num.Of(-1)
	}
	x := r.input[0]
	r.input = r.input[1:]
	return uint64(x)
}
