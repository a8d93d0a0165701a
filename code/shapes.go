package code

import "hauberk/api"

// key is what an Op has in each of its words, whatever it uses.
type key struct {
	op, f3, f7 uint8
}

func (k key) word() uint32 {
	return uint32(k.op) | uint32(k.f3)<<f3At | uint32(k.f7)<<f7At
}

// shape is how an Op's words look: its key, and its form, which tells the rest.
type shape struct {
	key
	form uint8
}

// row is an Op, its f3 and its f7.
type row [3]uint8

// shapes are the shapes of all Ops.
func shapes() map[int]shape {
	m := make(map[int]shape, api.ECALL)
	put := func(form, op uint8, rows ...row) {
		for _, r := range rows {
			m[int(r[0])] = shape{key{op, r[1], r[2]}, form}
		}
	}
	put(formR, 0x33,
		row{api.ADD, 0}, row{api.SUB, 0, 0x20}, row{api.SLL, 1}, row{api.SLT, 2}, row{api.SLTU, 3},
		row{api.XOR, 4}, row{api.SRL, 5}, row{api.SRA, 5, 0x20}, row{api.OR, 6}, row{api.AND, 7},
		row{api.MUL, 0, 1}, row{api.MULH, 1, 1}, row{api.MULHU, 3, 1},
		row{api.DIV, 4, 1}, row{api.DIVU, 5, 1}, row{api.REM, 6, 1}, row{api.REMU, 7, 1})
	put(formR, 0x3b,
		row{api.ADDW, 0}, row{api.SUBW, 0, 0x20}, row{api.SLLW, 1}, row{api.SRLW, 5}, row{api.SRAW, 5, 0x20},
		row{api.MULW, 0, 1}, row{api.DIVW, 4, 1}, row{api.DIVUW, 5, 1}, row{api.REMW, 6, 1}, row{api.REMUW, 7, 1})
	put(formI, 0x13,
		row{api.ADDI, 0}, row{api.SLTI, 2}, row{api.SLTIU, 3}, row{api.XORI, 4}, row{api.ORI, 6}, row{api.ANDI, 7})
	put(formT, 0x13, row{api.SLLI, 1}, row{api.SRLI, 5}, row{api.SRAI, 5, 0x20})
	put(formI, 0x1b, row{api.ADDIW, 0})
	put(formI, 0x03, row{api.LB, 0}, row{api.LW, 2}, row{api.LD, 3}, row{api.LBU, 4})
	put(formS, 0x23, row{api.SB, 0}, row{api.SW, 2}, row{api.SD, 3})
	put(formB, 0x63,
		row{api.BEQ, 0}, row{api.BNE, 1}, row{api.BLT, 4}, row{api.BGE, 5}, row{api.BLTU, 6}, row{api.BGEU, 7})
	put(formU, 0x37, row{api.LUI})
	put(formU, 0x17, row{api.AUIPC})
	put(formJ, 0x6f, row{api.JAL})
	put(formI, 0x67, row{api.JALR, 0})
	put(formN, 0x73, row{api.ECALL, 0})
	return m
}
