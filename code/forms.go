package code

import "hauberk/api"

// The lowest bits of a word's parts.
const (
	rdAt  = 7
	f3At  = 12
	rs1At = 15
	rs2At = 20
	f7At  = 25
)

// The forms, as places in the table of forms.
const (
	formR = iota
	formI
	formT
	formS
	formB
	formU
	formJ
	formN
)

// form is what instructions of one form use, which of a word's bits are fixed by an Op, and which Imm there may be, standing where. Without an Imm there is none from least to greatest.
type form struct {
	rd, rs1, rs2    bool
	fixed           uint32
	least, greatest int
	step            int
	pieces          [4]piece
}

var forms = [...]form{
	formR: {rd: true, rs1: true, rs2: true, fixed: 0xfe00707f, least: 1, greatest: 0},
	formI: {rd: true, rs1: true, fixed: 0x707f, least: -2048, greatest: 2047, step: 1, pieces: [4]piece{{0, 20, 12}}},
	formT: {rd: true, rs1: true, fixed: 0xfc00707f, least: 0, greatest: 63, step: 1, pieces: [4]piece{{0, 20, 6}}},
	formS: {rs1: true, rs2: true, fixed: 0x707f, least: -2048, greatest: 2047, step: 1, pieces: [4]piece{{0, 7, 5}, {5, 25, 7}}},
	formB: {rs1: true, rs2: true, fixed: 0x707f, least: -4096, greatest: 4094, step: 2, pieces: [4]piece{{11, 7, 1}, {1, 8, 4}, {5, 25, 6}, {12, 31, 1}}},
	formU: {rd: true, fixed: 0x7f, least: -1 << 19, greatest: 1<<19 - 1, step: 1, pieces: [4]piece{{0, 12, 20}}},
	formJ: {rd: true, fixed: 0x7f, least: -1 << 20, greatest: 1<<20 - 2, step: 2, pieces: [4]piece{{12, 12, 8}, {11, 20, 1}, {1, 21, 10}, {20, 31, 1}}},
	formN: {fixed: 0xffffffff, least: 1, greatest: 0},
}

// hasImm tells whether instructions of the form have an Imm.
func (f form) hasImm() bool { return f.least <= f.greatest }

// leavesZero tells whether what the form doesn't use is 0.
func (f form) leavesZero(i api.Instr) bool {
	return (f.rd || i.Rd == 0) && (f.rs1 || i.Rs1 == 0) && (f.rs2 || i.Rs2 == 0) && (f.hasImm() || i.Imm == 0)
}

// allows tells whether the registers and the Imm are some that may be; it is asked of instructions whose unused parts are 0.
func (f form) allows(i api.Instr) bool {
	return isRegister(i.Rd) && isRegister(i.Rs1) && isRegister(i.Rs2) && (!f.hasImm() || f.allowsImm(i.Imm))
}

func isRegister(r int) bool { return r >= 0 && r < 32 }

func (f form) allowsImm(n int) bool {
	return n >= f.least && n <= f.greatest && n%f.step == 0
}

// pack is what is used, where it stands in a word.
func (f form) pack(i api.Instr) uint32 {
	w := uint32(i.Rd)<<rdAt | uint32(i.Rs1)<<rs1At | uint32(i.Rs2)<<rs2At
	for _, p := range f.pieces {
		w |= p.put(i.Imm)
	}
	return w
}

// unpack is an Op with what its word uses.
func (f form) unpack(op int, w uint32) api.Instr {
	i := api.Instr{Op: op}
	if f.rd {
		i.Rd = register(w, rdAt)
	}
	if f.rs1 {
		i.Rs1 = register(w, rs1At)
	}
	if f.rs2 {
		i.Rs2 = register(w, rs2At)
	}
	for _, p := range f.pieces {
		i.Imm |= p.take(w)
	}
	return i
}

func register(w uint32, at int) int { return int(w >> at & 31) }

// piece is some bits of an Imm that stand together in a word: from which of the Imm's bits on, from which of the word's, and how many.
type piece struct {
	imm, word, bits int
}

// put moves the piece from an Imm to a word.
func (p piece) put(n int) uint32 {
	gap := 32 - p.bits
	return uint32(n>>p.imm) << gap >> (gap - p.word)
}

// take moves the piece from a word to an Imm. One at the word's upper end is the Imm's highest, of all forms, and so brings its sign.
func (p piece) take(w uint32) int {
	gap := 32 - p.bits
	top := w << (gap - p.word)
	if p.word+p.bits == 32 {
		return int(int32(top)>>gap) << p.imm
	}
	return int(top>>gap) << p.imm
}
