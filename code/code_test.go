package code_test

import (
	"math"
	"math/rand"
	"testing"

	"hauberk/api"
	"hauberk/code"
)

func encode(t *testing.T, i api.Instr) uint32 {
	t.Helper()
	w, e := code.Encode(i)
	if e != api.OK {
		t.Fatalf("Encode(%v): error %d", i, e)
	}
	return w
}

func decode(t *testing.T, w uint32) api.Instr {
	t.Helper()
	i, e := code.Decode(w)
	if e != api.OK {
		t.Fatalf("Decode(%08x): error %d", w, e)
	}
	return i
}

// refuses asks for an instruction that has no word.
func refuses(t *testing.T, i api.Instr, want api.Errno) {
	t.Helper()
	if w, e := code.Encode(i); w != 0 || e != want {
		t.Errorf("P2.1: Encode(%v): %08x, %d, want 0, %d", i, w, e, want)
	}
}

// P2.1: the chapter's examples, and words of all Ops that were made by another assembler.
func TestWordsWrittenOut(t *testing.T) {
	for _, c := range []struct {
		i api.Instr
		w uint32
	}{
		{api.Instr{Op: api.LD, Rd: 5, Rs1: 2, Imm: 8}, 0x00813283},
		{api.Instr{Op: api.ADDIW, Rd: 1, Rs1: 1}, 0x0000809b},
		{api.Instr{Op: api.LUI, Rd: 5, Imm: -1}, 0xfffff2b7},
		{api.Instr{Op: api.ADD}, 0x00000033},
		{api.Instr{Op: api.ADD, Rd: 3, Rs1: 18, Rs2: 9}, 0x009901b3},
		{api.Instr{Op: api.SUB, Rd: 10, Rs1: 23, Rs2: 20}, 0x414b8533},
		{api.Instr{Op: api.SLL, Rd: 17, Rs1: 28, Rs2: 31}, 0x01fe18b3},
		{api.Instr{Op: api.SLT, Rd: 24, Rs1: 1, Rs2: 10}, 0x00a0ac33},
		{api.Instr{Op: api.SLTU, Rd: 31, Rs1: 6, Rs2: 21}, 0x01533fb3},
		{api.Instr{Op: api.XOR, Rd: 6, Rs1: 11}, 0x0005c333},
		{api.Instr{Op: api.SRL, Rd: 13, Rs1: 16, Rs2: 11}, 0x00b856b3},
		{api.Instr{Op: api.SRA, Rd: 20, Rs1: 21, Rs2: 22}, 0x416ada33},
		{api.Instr{Op: api.OR, Rd: 27, Rs1: 26, Rs2: 1}, 0x001d6db3},
		{api.Instr{Op: api.AND, Rd: 2, Rs1: 31, Rs2: 12}, 0x00cff133},
		{api.Instr{Op: api.MUL, Rd: 9, Rs1: 4, Rs2: 23}, 0x037204b3},
		{api.Instr{Op: api.MULH, Rd: 16, Rs1: 9, Rs2: 2}, 0x02249833},
		{api.Instr{Op: api.MULHU, Rd: 23, Rs1: 14, Rs2: 13}, 0x02d73bb3},
		{api.Instr{Op: api.DIV, Rd: 30, Rs1: 19, Rs2: 24}, 0x0389cf33},
		{api.Instr{Op: api.DIVU, Rd: 5, Rs1: 24, Rs2: 3}, 0x023c52b3},
		{api.Instr{Op: api.REM, Rd: 12, Rs1: 29, Rs2: 14}, 0x02eee633},
		{api.Instr{Op: api.REMU, Rd: 19, Rs1: 2, Rs2: 25}, 0x039179b3},
		{api.Instr{Op: api.ADDW, Rd: 26, Rs1: 7, Rs2: 4}, 0x00438d3b},
		{api.Instr{Op: api.SUBW, Rd: 1, Rs1: 12, Rs2: 15}, 0x40f600bb},
		{api.Instr{Op: api.SLLW, Rd: 8, Rs1: 17, Rs2: 26}, 0x01a8943b},
		{api.Instr{Op: api.SRLW, Rd: 15, Rs1: 22, Rs2: 5}, 0x005b57bb},
		{api.Instr{Op: api.SRAW, Rd: 22, Rs1: 27, Rs2: 16}, 0x410ddb3b},
		{api.Instr{Op: api.MULW, Rd: 29, Rs2: 27}, 0x03b00ebb},
		{api.Instr{Op: api.DIVW, Rd: 4, Rs1: 5, Rs2: 6}, 0x0262c23b},
		{api.Instr{Op: api.DIVUW, Rd: 11, Rs1: 10, Rs2: 17}, 0x031555bb},
		{api.Instr{Op: api.REMW, Rd: 18, Rs1: 15, Rs2: 28}, 0x03c7e93b},
		{api.Instr{Op: api.REMUW, Rd: 25, Rs1: 20, Rs2: 7}, 0x027a7cbb},
		{api.Instr{Op: api.ADD, Rd: 31, Rs1: 31, Rs2: 31}, 0x01ff8fb3},
		{api.Instr{Op: api.ADDI, Rd: 5, Rs1: 22, Imm: -2048}, 0x800b0293},
		{api.Instr{Op: api.SLTI, Rd: 14, Rs1: 3, Imm: 2047}, 0x7ff1a713},
		{api.Instr{Op: api.SLTIU, Rd: 23, Rs1: 16, Imm: -1}, 0xfff83b93},
		{api.Instr{Op: api.XORI, Rs1: 29, Imm: 1365}, 0x555ec013},
		{api.Instr{Op: api.ORI, Rd: 9, Rs1: 10, Imm: -1366}, 0xaaa56493},
		{api.Instr{Op: api.ANDI, Rd: 18, Rs1: 23, Imm: 64}, 0x040bf913},
		{api.Instr{Op: api.ADDIW, Rd: 27, Rs1: 4, Imm: -2047}, 0x80120d9b},
		{api.Instr{Op: api.SLLI, Rd: 17, Rs1: 14}, 0x00071893},
		{api.Instr{Op: api.SLLI, Rd: 17, Rs1: 14, Imm: 63}, 0x03f71893},
		{api.Instr{Op: api.SRLI, Rd: 17, Rs1: 14, Imm: 1}, 0x00175893},
		{api.Instr{Op: api.SRLI, Rd: 17, Rs1: 14, Imm: 42}, 0x02a75893},
		{api.Instr{Op: api.SRAI, Rd: 17, Rs1: 14, Imm: 32}, 0x42075893},
		{api.Instr{Op: api.SRAI, Rd: 17, Rs1: 14, Imm: 63}, 0x43f75893},
		{api.Instr{Op: api.SRAI, Rd: 17, Rs1: 14}, 0x40075893},
		{api.Instr{Op: api.LB, Rd: 10, Rs1: 21, Imm: -2048}, 0x800a8503},
		{api.Instr{Op: api.LBU, Rd: 10, Rs1: 21, Imm: 2047}, 0x7ffac503},
		{api.Instr{Op: api.LW, Rd: 10, Rs1: 21, Imm: -4}, 0xffcaa503},
		{api.Instr{Op: api.LD, Rd: 10, Rs1: 21, Imm: 1000}, 0x3e8ab503},
		{api.Instr{Op: api.JALR, Rd: 10, Rs1: 21, Imm: -2}, 0xffea8567},
		{api.Instr{Op: api.JALR, Rd: 10, Rs1: 21, Imm: 2047}, 0x7ffa8567},
		{api.Instr{Op: api.SB, Rs1: 21, Rs2: 11, Imm: -2048}, 0x80ba8023},
		{api.Instr{Op: api.SW, Rs1: 21, Rs2: 11, Imm: 2047}, 0x7ebaafa3},
		{api.Instr{Op: api.SD, Rs1: 21, Rs2: 11, Imm: -33}, 0xfcbabfa3},
		{api.Instr{Op: api.SD, Rs1: 21, Rs2: 11, Imm: 31}, 0x00babfa3},
		{api.Instr{Op: api.SB, Rs1: 21, Rs2: 11, Imm: 32}, 0x02ba8023},
		{api.Instr{Op: api.BEQ, Rs1: 26, Rs2: 5, Imm: -4096}, 0x805d0063},
		{api.Instr{Op: api.BNE, Rs1: 26, Rs2: 5, Imm: 4094}, 0x7e5d1fe3},
		{api.Instr{Op: api.BLT, Rs1: 26, Rs2: 5, Imm: 2048}, 0x005d40e3},
		{api.Instr{Op: api.BGE, Rs1: 26, Rs2: 5, Imm: -2}, 0xfe5d5fe3},
		{api.Instr{Op: api.BLTU, Rs1: 26, Rs2: 5, Imm: 30}, 0x005d6f63},
		{api.Instr{Op: api.BGEU, Rs1: 26, Rs2: 5, Imm: -1366}, 0xaa5d75e3},
		{api.Instr{Op: api.BGEU, Rs1: 26, Rs2: 5, Imm: 2016}, 0x7e5d7063},
		{api.Instr{Op: api.LUI, Rd: 13, Imm: -524288}, 0x800006b7},
		{api.Instr{Op: api.LUI, Rd: 13, Imm: 524287}, 0x7ffff6b7},
		{api.Instr{Op: api.AUIPC, Rd: 13, Imm: -1}, 0xfffff697},
		{api.Instr{Op: api.AUIPC, Rd: 13, Imm: 74565}, 0x12345697},
		{api.Instr{Op: api.JAL, Rd: 18, Imm: -1048576}, 0x8000096f},
		{api.Instr{Op: api.JAL, Rd: 18, Imm: 1048574}, 0x7ffff96f},
		{api.Instr{Op: api.JAL, Rd: 18, Imm: 2048}, 0x0010096f},
		{api.Instr{Op: api.JAL, Rd: 18, Imm: 4096}, 0x0000196f},
		{api.Instr{Op: api.JAL, Rd: 18, Imm: -2}, 0xfffff96f},
		{api.Instr{Op: api.JAL, Rd: 18, Imm: 349514}, 0x54a5596f},
		{api.Instr{Op: api.ECALL}, 0x00000073},
	} {
		if w := encode(t, c.i); w != c.w {
			t.Errorf("P2.1: Encode(%v): %08x, want %08x", c.i, w, c.w)
		}
		if i := decode(t, c.w); i != c.i {
			t.Errorf("P2.1: Decode(%08x): %v, want %v", c.w, i, c.i)
		}
	}
}

// P2.1: the table of the tests has all Ops, once.
func TestTableIsWhole(t *testing.T) {
	for at, k := range table {
		if k.op != at+1 {
			t.Errorf("%s: at %d is Op %d", k.name, at, k.op)
		}
	}
	if len(table) != api.ECALL {
		t.Errorf("%d Ops, want %d", len(table), api.ECALL)
	}
}

// P2.1, P2.2: each instruction has the word that the chapter draws, and that word is its own.
func TestEncodeByTheWords(t *testing.T) {
	for _, k := range table {
		t.Run(k.name, func(t *testing.T) {
			for _, i := range k.samples() {
				w, want := encode(t, i), k.word(i)
				if w != want {
					t.Fatalf("P2.1: Encode(%v): %08x, want %08x", i, w, want)
				}
				if back := decode(t, w); back != i {
					t.Fatalf("P2.2: Decode(%08x): %v, want %v", w, back, i)
				}
			}
		})
	}
}

// P2.1, R3: an Op that is none is ErrForm, whatever else there is.
func TestEncodeOfNone(t *testing.T) {
	for _, op := range []int{math.MinInt, -(1 << 32) + 1, -55, -1, 0, 56, 57, 63, 64, 127, 128, 255, 256, 257, 256 + api.LD, 1<<32 + 1, 1<<32 + api.ECALL, math.MaxInt} {
		refuses(t, api.Instr{Op: op}, api.ErrForm)
		refuses(t, api.Instr{Op: op, Rd: 1, Rs1: 2, Rs2: 3, Imm: 4}, api.ErrForm)
		refuses(t, api.Instr{Op: op, Rd: 32, Rs1: -1, Rs2: 99, Imm: math.MinInt}, api.ErrForm)
	}
}

// P2.1, R2: what isn't used and isn't 0 is ErrForm, also where a part that is used is wrong.
func TestEncodeOfUnused(t *testing.T) {
	for _, k := range table {
		for _, part := range []int{pRd, pRs1, pRs2, pImm} {
			if k.uses(part) {
				continue
			}
			for _, n := range []int{math.MinInt, -1 << 32, -1, 1, 2, 31, 32, 4096, 1 << 32, math.MaxInt} {
				i := api.Instr{Op: k.op}
				*field(&i, part) = n
				refuses(t, i, api.ErrForm)
				for _, other := range []int{pRd, pRs1, pRs2, pImm} {
					if k.uses(other) {
						worse := i
						*field(&worse, other) = -1 << 40
						refuses(t, worse, api.ErrForm)
					}
				}
			}
		}
	}
}

// P2.1: a register that is used, and isn't from 0 to 31, is ErrRange.
func TestEncodeOfNoRegister(t *testing.T) {
	for _, k := range table {
		for _, part := range []int{pRd, pRs1, pRs2} {
			if !k.uses(part) {
				continue
			}
			for _, n := range []int{math.MinInt, -1 << 32, -32, -1, 32, 33, 63, 64, 1 << 32, 1<<32 + 5, math.MaxInt} {
				i := api.Instr{Op: k.op}
				*field(&i, part) = n
				refuses(t, i, api.ErrRange)
			}
			for _, n := range []int{0, 1, 30, 31} {
				i := api.Instr{Op: k.op}
				*field(&i, part) = n
				encode(t, i)
			}
		}
	}
}

// P2.1: an Imm that is used, and may not be, is ErrRange; the ends may be.
func TestEncodeOfNoImm(t *testing.T) {
	for _, k := range table {
		r, ok := rooms[k.form]
		if !ok {
			continue
		}
		wrong := []int{math.MinInt, -1 << 32, -1 << 21, r.least - 2, r.least - 1, r.greatest + 1, r.greatest + 2, r.greatest + 4, 1 << 21, 1 << 32, 1<<32 + 2, math.MaxInt - 1, math.MaxInt}
		if r.step == 2 {
			wrong = append(wrong, r.least+1, -3, -1, 1, 3, 1023, r.greatest-1)
		}
		for _, n := range wrong {
			refuses(t, api.Instr{Op: k.op, Imm: n}, api.ErrRange)
		}
		for _, n := range []int{r.least, r.least + r.step, 0, r.step, r.greatest - r.step, r.greatest} {
			i := api.Instr{Op: k.op, Imm: n}
			if w := encode(t, i); w != k.word(i) {
				t.Errorf("P2.1: Encode(%v): %08x, want %08x", i, w, k.word(i))
			}
		}
	}
}

// checkWord holds what a word is decoded to against the chapter's words, and its word against it.
func checkWord(t *testing.T, w uint32) {
	t.Helper()
	want, n := meant(w)
	if n > 1 {
		t.Fatalf("P2.2: %08x is the word of %d instructions", w, n)
	}
	i, e := code.Decode(w)
	if n == 0 && (i != api.Instr{} || e != api.ErrForm) {
		t.Fatalf("P2.1: Decode(%08x): %v, %d, want none, %d", w, i, e, api.ErrForm)
	}
	if n == 0 {
		return
	}
	if i != want || e != api.OK {
		t.Fatalf("P2.1: Decode(%08x): %v, %d, want %v", w, i, e, want)
	}
	if back := encode(t, i); back != w {
		t.Fatalf("P2.2: Encode(%v): %08x, want %08x", i, back, w)
	}
}

// P2.1, P2.2: each op, f3 and f7 that a word can have, about parts that are empty, full and mixed.
func TestDecodeByTheWords(t *testing.T) {
	const rest = 0x01ff8f80 // rd, rs1 and rs2
	for fixed := range uint32(1 << 17) {
		w := fixed&0x7f | fixed>>7&7<<12 | fixed>>10<<25
		for _, fill := range []uint32{0, rest, 0x00a5c480} {
			checkWord(t, w|fill)
		}
	}
}

// P2.1, P2.2: words that are next to those of instructions: with one bit another, with two; and any words.
func TestDecodeNearby(t *testing.T) {
	r := rand.New(rand.NewSource(2))
	for _, k := range table {
		l := k.samples()
		for range 20 {
			w := k.word(l[r.Intn(len(l))])
			for bit := range 32 {
				checkWord(t, w^1<<bit)
				checkWord(t, w^1<<bit^1<<r.Intn(32))
			}
		}
	}
	for range 50000 {
		checkWord(t, r.Uint32())
	}
}

// P2.1: words of none, written out: those of the whole machine that the chapter hasn't are none either.
func TestDecodeOfNone(t *testing.T) {
	for _, w := range []uint32{
		0, 1<<32 - 1,
		0x00100073,                         // ebreak
		0x000000f3,                         // an ecall with rd
		0x00008073,                         // an ecall with rs1
		0x00001073,                         // csrrw
		0x0000000f,                         // fence
		0x00001003,                         // lh
		0x00005003,                         // lhu
		0x00006003,                         // lwu
		0x00001023,                         // sh
		0x00002033 | 1<<25,                 // mulhsu
		0x0000101b,                         // slliw
		0x0000501b,                         // srliw
		0x4000501b,                         // sraiw
		0x00002063,                         // a branch of f3 2
		0x00003063,                         // a branch of f3 3
		0x00001067,                         // a jalr of f3 1
		0x40001033,                         // an sll of f7 20
		0x0200103b,                         // a mulw of f3 1
		0x04000033,                         // an add of f7 2
		0x40001013,                         // an slli of f7 20
		0x80005013,                         // an srli of f7 40
		0x44005013,                         // an srai of f7 22
		0x00000012, 0x00000011, 0x00000001, // short ones
	} {
		if i, e := code.Decode(w); i != (api.Instr{}) || e != api.ErrForm {
			t.Errorf("P2.1: Decode(%08x): %v, %d, want none, %d", w, i, e, api.ErrForm)
		}
	}
}

// P2.1: the least and the greatest Imm, of each Op; 1, 0 of one without, and of what is no Op.
func TestRoom(t *testing.T) {
	for _, k := range table {
		least, greatest := 1, 0
		if r, ok := rooms[k.form]; ok {
			least, greatest = r.least, r.greatest
		}
		if a, b := code.Room(k.op); a != least || b != greatest {
			t.Errorf("P2.1: Room(%s): %d, %d, want %d, %d", k.name, a, b, least, greatest)
		}
	}
	for _, op := range []int{math.MinInt, -1, 0, 56, 256 + api.ADDI, 1<<32 + api.ADDI, math.MaxInt} {
		if a, b := code.Room(op); a != 1 || b != 0 {
			t.Errorf("P2.1: Room(%d): %d, %d, want 1, 0", op, a, b)
		}
	}
}

// P2.2: two instructions have two words.
func TestWordsDiffer(t *testing.T) {
	owner := map[uint32]api.Instr{}
	for _, k := range table {
		for _, i := range k.samples() {
			w := encode(t, i)
			if other, ok := owner[w]; ok && other != i {
				t.Fatalf("P2.2: %08x is the word of %v and of %v", w, other, i)
			}
			owner[w] = i
		}
	}
}

// P6: each call answers, and none panics, at whatever numbers; what has a word is just what may be.
func TestNoPanic(t *testing.T) {
	numbers := []int{math.MinInt, -1 << 32, -1, 0, 1, 31, 32, 1 << 32, math.MaxInt}
	for op := -3; op <= 60; op++ {
		for _, a := range numbers {
			for _, b := range numbers {
				for _, n := range numbers {
					for _, i := range []api.Instr{{Op: op, Rd: a, Rs1: b, Imm: n}, {Op: op, Rs1: a, Rs2: b, Imm: n}, {Op: op, Rd: a, Rs1: b, Rs2: n}} {
						w, e := code.Encode(i)
						if e == api.OK && decode(t, w) != i {
							t.Fatalf("P6: Encode(%v): %08x", i, w)
						}
						if e != api.OK && w != 0 {
							t.Fatalf("P6: R3: Encode(%v): %08x beside error %d", i, w, e)
						}
					}
				}
			}
		}
	}
	for _, op := range numbers {
		code.Room(op)
	}
}

// P7 (R8): an answer doesn't hang on what was asked ahead of it, nor on the order in which forms are gone through.
func TestSameAgain(t *testing.T) {
	for range 100 {
		for _, k := range table {
			i := k.trim(api.Instr{Op: k.op, Rd: 9, Rs1: 18, Rs2: 27, Imm: 22})
			w := k.word(i)
			if encode(t, i) != w || decode(t, w) != i {
				t.Fatalf("P7: R8: %v has not the word %08x again", i, w)
			}
			if _, e := code.Decode(w &^ 3); e != api.ErrForm {
				t.Fatalf("P7: R8: Decode(%08x): error %d", w&^3, e)
			}
		}
	}
}
