package code_test

import "hauberk/api"

// The parts of a word, as layouts name them.
const (
	pOp = iota
	pF3
	pF7
	pRd
	pRs1
	pRs2
	pImm
	pZero
	parts
)

// run is a row of a part's bits, from its upper one to its lower one.
type run struct{ part, from, to int }

// layouts tell by forms what stands in a word, from bit 31 down: each row as manuals of the machine draw it.
var layouts = map[byte][]run{
	'R': {{pF7, 6, 0}, {pRs2, 4, 0}, {pRs1, 4, 0}, {pF3, 2, 0}, {pRd, 4, 0}, {pOp, 6, 0}},
	'I': {{pImm, 11, 0}, {pRs1, 4, 0}, {pF3, 2, 0}, {pRd, 4, 0}, {pOp, 6, 0}},
	'T': {{pF7, 6, 1}, {pImm, 5, 0}, {pRs1, 4, 0}, {pF3, 2, 0}, {pRd, 4, 0}, {pOp, 6, 0}},
	'S': {{pImm, 11, 5}, {pRs2, 4, 0}, {pRs1, 4, 0}, {pF3, 2, 0}, {pImm, 4, 0}, {pOp, 6, 0}},
	'B': {{pImm, 12, 12}, {pImm, 10, 5}, {pRs2, 4, 0}, {pRs1, 4, 0}, {pF3, 2, 0}, {pImm, 4, 1}, {pImm, 11, 11}, {pOp, 6, 0}},
	'U': {{pImm, 19, 0}, {pRd, 4, 0}, {pOp, 6, 0}},
	'J': {{pImm, 20, 20}, {pImm, 10, 1}, {pImm, 11, 11}, {pImm, 19, 12}, {pRd, 4, 0}, {pOp, 6, 0}},
	'N': {{pZero, 24, 0}, {pOp, 6, 0}},
}

// rooms are the least and the greatest Imm of the forms that have one, and the number that it is a multiple of.
var rooms = map[byte]struct{ least, greatest, step int }{
	'I': {-2048, 2047, 1}, 'T': {0, 63, 1}, 'S': {-2048, 2047, 1}, 'B': {-4096, 4094, 2},
	'U': {-524288, 524287, 1}, 'J': {-1048576, 1048574, 2},
}

// known is an Op by the chapter's table.
type known struct {
	name         string
	op           int
	form         byte
	code, f3, f7 int
}

var table = []known{
	{"ADD", api.ADD, 'R', 0x33, 0, 0}, {"SUB", api.SUB, 'R', 0x33, 0, 0x20}, {"SLL", api.SLL, 'R', 0x33, 1, 0},
	{"SLT", api.SLT, 'R', 0x33, 2, 0}, {"SLTU", api.SLTU, 'R', 0x33, 3, 0}, {"XOR", api.XOR, 'R', 0x33, 4, 0},
	{"SRL", api.SRL, 'R', 0x33, 5, 0}, {"SRA", api.SRA, 'R', 0x33, 5, 0x20}, {"OR", api.OR, 'R', 0x33, 6, 0}, {"AND", api.AND, 'R', 0x33, 7, 0},
	{"MUL", api.MUL, 'R', 0x33, 0, 1}, {"MULH", api.MULH, 'R', 0x33, 1, 1}, {"MULHU", api.MULHU, 'R', 0x33, 3, 1},
	{"DIV", api.DIV, 'R', 0x33, 4, 1}, {"DIVU", api.DIVU, 'R', 0x33, 5, 1}, {"REM", api.REM, 'R', 0x33, 6, 1}, {"REMU", api.REMU, 'R', 0x33, 7, 1},
	{"ADDW", api.ADDW, 'R', 0x3b, 0, 0}, {"SUBW", api.SUBW, 'R', 0x3b, 0, 0x20}, {"SLLW", api.SLLW, 'R', 0x3b, 1, 0},
	{"SRLW", api.SRLW, 'R', 0x3b, 5, 0}, {"SRAW", api.SRAW, 'R', 0x3b, 5, 0x20}, {"MULW", api.MULW, 'R', 0x3b, 0, 1},
	{"DIVW", api.DIVW, 'R', 0x3b, 4, 1}, {"DIVUW", api.DIVUW, 'R', 0x3b, 5, 1}, {"REMW", api.REMW, 'R', 0x3b, 6, 1}, {"REMUW", api.REMUW, 'R', 0x3b, 7, 1},
	{"ADDI", api.ADDI, 'I', 0x13, 0, 0}, {"SLTI", api.SLTI, 'I', 0x13, 2, 0}, {"SLTIU", api.SLTIU, 'I', 0x13, 3, 0},
	{"XORI", api.XORI, 'I', 0x13, 4, 0}, {"ORI", api.ORI, 'I', 0x13, 6, 0}, {"ANDI", api.ANDI, 'I', 0x13, 7, 0},
	{"SLLI", api.SLLI, 'T', 0x13, 1, 0}, {"SRLI", api.SRLI, 'T', 0x13, 5, 0}, {"SRAI", api.SRAI, 'T', 0x13, 5, 0x20},
	{"ADDIW", api.ADDIW, 'I', 0x1b, 0, 0},
	{"LB", api.LB, 'I', 0x03, 0, 0}, {"LBU", api.LBU, 'I', 0x03, 4, 0}, {"LW", api.LW, 'I', 0x03, 2, 0}, {"LD", api.LD, 'I', 0x03, 3, 0},
	{"SB", api.SB, 'S', 0x23, 0, 0}, {"SW", api.SW, 'S', 0x23, 2, 0}, {"SD", api.SD, 'S', 0x23, 3, 0},
	{"BEQ", api.BEQ, 'B', 0x63, 0, 0}, {"BNE", api.BNE, 'B', 0x63, 1, 0}, {"BLT", api.BLT, 'B', 0x63, 4, 0},
	{"BGE", api.BGE, 'B', 0x63, 5, 0}, {"BLTU", api.BLTU, 'B', 0x63, 6, 0}, {"BGEU", api.BGEU, 'B', 0x63, 7, 0},
	{"LUI", api.LUI, 'U', 0x37, 0, 0}, {"AUIPC", api.AUIPC, 'U', 0x17, 0, 0},
	{"JAL", api.JAL, 'J', 0x6f, 0, 0}, {"JALR", api.JALR, 'I', 0x67, 0, 0}, {"ECALL", api.ECALL, 'N', 0x73, 0, 0},
}

// uses tells whether words of the Op have that part.
func (k known) uses(part int) bool {
	for _, r := range layouts[k.form] {
		if r.part == part {
			return true
		}
	}
	return false
}

// values are an instruction's parts.
func (k known) values(i api.Instr) [parts]int {
	return [parts]int{pOp: k.code, pF3: k.f3, pF7: k.f7, pRd: i.Rd, pRs1: i.Rs1, pRs2: i.Rs2, pImm: i.Imm}
}

// word is an instruction's word, written bit by bit.
func (k known) word(i api.Instr) uint32 {
	v := k.values(i)
	w := uint32(0)
	for _, r := range layouts[k.form] {
		for n := r.from; n >= r.to; n-- {
			w = w<<1 | uint32(v[r.part]>>n&1)
		}
	}
	return w
}

// read is the instruction of this Op whose word this is, read bit by bit, if there is one.
func (k known) read(w uint32) (api.Instr, bool) {
	v, seen := [parts]int{}, [parts]bool{}
	high := 0
	at := 32
	for _, r := range layouts[k.form] {
		seen[r.part] = true
		for n := r.from; n >= r.to; n-- {
			at--
			v[r.part] |= int(w>>at&1) << n
			if r.part == pImm {
				high = max(high, n)
			}
		}
	}
	for part, want := range map[int]int{pOp: k.code, pF3: k.f3, pF7: k.f7, pZero: 0} {
		if seen[part] && v[part] != want {
			return api.Instr{}, false
		}
	}
	if seen[pImm] && k.form != 'T' && v[pImm]>>high == 1 {
		v[pImm] -= 2 << high
	}
	return api.Instr{Op: k.op, Rd: v[pRd], Rs1: v[pRs1], Rs2: v[pRs2], Imm: v[pImm]}, true
}

// meant is the instruction that the chapter's words ask of a word, if there is one, and how many there are.
func meant(w uint32) (api.Instr, int) {
	found, n := api.Instr{}, 0
	for _, k := range table {
		if int(w&0x7f) != k.code {
			continue
		}
		if i, ok := k.read(w); ok {
			found = i
			n++
		}
	}
	return found, n
}

// imms are many Imms of the Op: all, where they are few, else those about powers of two and about the ends, and some between; only 0 of one without.
func (k known) imms() []int {
	r, ok := rooms[k.form]
	if !ok {
		return []int{0}
	}
	stride := r.step
	if r.greatest > 5000 {
		stride = 746
	}
	var l []int
	add := func(n int) {
		if n >= r.least && n <= r.greatest && n%r.step == 0 {
			l = append(l, n)
		}
	}
	for n := r.least; n <= r.greatest; n += stride {
		add(n)
	}
	for p := 1; p <= r.greatest; p *= 2 {
		for _, n := range []int{p - 2, p - 1, p, p + 1, p + 2} {
			add(n)
			add(-n)
		}
	}
	add(r.greatest)
	return l
}

// samples are many instructions of the Op: each Imm, and each register in each part, about others that change along.
func (k known) samples() []api.Instr {
	var l []api.Instr
	for at, n := range k.imms() {
		l = append(l, k.trim(api.Instr{Op: k.op, Rd: at % 32, Rs1: at / 3 % 32, Rs2: at * 7 % 32, Imm: n}))
	}
	imms := k.imms()
	for r := range 32 {
		for s := range 32 {
			n := imms[(r*32+s)%len(imms)]
			l = append(l, k.trim(api.Instr{Op: k.op, Rd: r, Rs1: s, Rs2: (r + s) % 32, Imm: n}), k.trim(api.Instr{Op: k.op, Rd: s, Rs1: 31 - r, Rs2: r, Imm: n}))
		}
	}
	return l
}

// trim takes away what the Op doesn't use.
func (k known) trim(i api.Instr) api.Instr {
	for _, part := range []int{pRd, pRs1, pRs2, pImm} {
		if !k.uses(part) {
			*field(&i, part) = 0
		}
	}
	return i
}

// field is where an instruction keeps a part.
func field(i *api.Instr, part int) *int {
	switch part {
	case pRd:
		return &i.Rd
	case pRs1:
		return &i.Rs1
	case pRs2:
		return &i.Rs2
	}
	return &i.Imm
}
