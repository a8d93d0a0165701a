package mach_test

import (
	"bytes"
	"encoding/binary"
	"math"
	"slices"
	"testing"

	"hauberk/api"
	"hauberk/code"
	"hauberk/mach"
	"hauberk/num"
)

const (
	all = ^uint64(0)
	top = uint64(1) << 63
)

// edges are the numbers about which instructions turn.
var edges = []uint64{0, 1, 2, 5, 31, 32, 63, 64, 127, 128, 255, 256, 2047, 2048, 1<<31 - 1, 1 << 31, 1<<32 - 1, 1 << 32, 0x123456789abcdef0, 0xfedcba9876543210, top - 1, top, top + 1, all - 1<<31, all - 2047, all - 1, all}

// text is the bytes of instructions.
func text(t *testing.T, l ...api.Instr) []byte {
	t.Helper()
	var b []byte
	for _, i := range l {
		w, e := code.Encode(i)
		if e != api.OK {
			t.Fatalf("Encode(%v): error %d", i, e)
		}
		b = binary.LittleEndian.AppendUint32(b, w)
	}
	return b
}

func machine(t *testing.T, b []byte, size int) *mach.Mach {
	t.Helper()
	m, e := mach.New(b, size)
	if e != api.OK || m == nil {
		t.Fatalf("P3.1: New of %d bytes, %d: error %d", len(b), size, e)
	}
	return m
}

// loaded is a machine of 256 bytes that begins with these instructions.
func loaded(t *testing.T, l ...api.Instr) *mach.Mach {
	t.Helper()
	return machine(t, text(t, l...), 256)
}

// picture is all that can be seen of a machine.
type picture struct {
	registers [32]uint64
	place     uint64
	memory    string
}

func look(t *testing.T, m *mach.Mach, size int) picture {
	t.Helper()
	b, e := m.Peek(0, size)
	if e != api.OK || len(b) != size {
		t.Fatalf("P3.1: Peek(0, %d): %d bytes, error %d", size, len(b), e)
	}
	p := picture{place: m.Place(), memory: string(b)}
	for k := range p.registers {
		p.registers[k] = m.Reg(k)
	}
	return p
}

func same(a, b api.Result) bool {
	return a.State == b.State && a.Code == b.Code && a.Why == b.Why && bytes.Equal(a.Out, b.Out) && a.Steps == b.Steps && a.Checks == b.Checks
}

// goesOn runs a machine, which must make so many steps and still be Running.
func goesOn(t *testing.T, m *mach.Mach, steps int) {
	t.Helper()
	if r := m.Run(nil, steps); r.State != api.Running || r.Steps != steps {
		t.Fatalf("P3.1: %v, want %d steps and Running", r, steps)
	}
}

// faults runs a machine of 256 bytes, which must fault at once, changing and telling nothing.
func faults(t *testing.T, what string, m *mach.Mach) {
	t.Helper()
	ahead := look(t, m, 256)
	r, seen := m.Watch([]byte{1, 2}, 10)
	if !same(r, api.Result{State: api.Fault}) || len(seen) != 0 {
		t.Errorf("P3.1: %s: %v, %v, want a fault and nothing else", what, r, seen)
	}
	if look(t, m, 256) != ahead {
		t.Errorf("P3.1: %s: a fault has changed something", what)
	}
}

// P3.1: the chapter's example.
func TestExample(t *testing.T) {
	m := loaded(t, api.Instr{Op: api.ADDI, Rd: 17, Imm: 3}, api.Instr{Op: api.ECALL})
	if r := m.Run(nil, 100); !same(r, api.Result{State: api.Exit, Steps: 2}) {
		t.Errorf("P3.1: %v", r)
	}
}

// P3.1: New's bytes stand from 0 on, all else is 0.
func TestNew(t *testing.T) {
	b := []byte{1, 2, 3, 0xff, 5}
	for _, size := range []int{5, 6, 64, 1000, api.MaxMemory} {
		p := look(t, machine(t, b, size), size)
		if p.memory != string(b)+string(make([]byte, size-5)) || p.registers != [32]uint64{} || p.place != 0 {
			t.Errorf("P3.1: New of 5 bytes, %d: not these and else 0", size)
		}
	}
	look(t, machine(t, nil, 0), 0)
	look(t, machine(t, []byte{}, 9), 9)
	look(t, machine(t, make([]byte, api.MaxMemory), api.MaxMemory), api.MaxMemory)
}

// P3.1, R3: sizes that may not be.
func TestNewOfNoSize(t *testing.T) {
	for _, c := range []struct{ n, size int }{
		{0, -1}, {0, math.MinInt}, {1, 0}, {5, 4}, {5, -5}, {api.MaxMemory, api.MaxMemory - 1},
		{0, api.MaxMemory + 1}, {4, 1 << 32}, {4, math.MaxInt}, {api.MaxMemory + 1, api.MaxMemory}, {api.MaxMemory + 1, api.MaxMemory + 1},
	} {
		if m, e := mach.New(make([]byte, c.n), c.size); m != nil || e != api.ErrRange {
			t.Errorf("P3.1: New of %d bytes, %d: %v, error %d, want none, %d", c.n, c.size, m != nil, e, api.ErrRange)
		}
	}
}

// P3.1: registers are what they were set to; register 0 is 0, what is none too.
func TestRegisters(t *testing.T) {
	m := machine(t, nil, 16)
	for r := range 32 {
		m.Set(r, all-uint64(r))
	}
	for _, r := range []int{math.MinInt, -1 << 32, -32, -31, -1, 32, 33, 63, 64, 1 << 32, 1<<32 + 1, math.MaxInt} {
		m.Set(r, 7)
		if x := m.Reg(r); x != 0 {
			t.Errorf("P3.1: Reg(%d): %x, want 0", r, x)
		}
	}
	for r := 1; r < 32; r++ {
		if x := m.Reg(r); x != all-uint64(r) {
			t.Errorf("P3.1: Reg(%d): %x, want %x", r, x, all-uint64(r))
		}
	}
	if m.Reg(0) != 0 {
		t.Errorf("P3.1: Reg(0): %x, want 0", m.Reg(0))
	}
	m.Set(5, 0)
	if m.Reg(5) != 0 || m.Place() != 0 {
		t.Errorf("P3.1: Set(5, 0): %x, at %x", m.Reg(5), m.Place())
	}
}

// P3.1: the place is any number that it is set to.
func TestPlace(t *testing.T) {
	m := machine(t, nil, 16)
	for _, to := range append([]uint64{3, 12, 16, 17}, edges...) {
		m.Jump(to)
		if m.Place() != to {
			t.Errorf("P3.1: Jump(%x): %x", to, m.Place())
		}
	}
	m = loaded(t, api.Instr{Op: api.ADDI, Rd: 1, Imm: 5}, api.Instr{Op: api.ADDI, Rd: 2, Imm: 6})
	m.Jump(4)
	goesOn(t, m, 1)
	if m.Reg(1) != 0 || m.Reg(2) != 6 || m.Place() != 8 {
		t.Errorf("P3.1: Jump: %d, %d, at %d", m.Reg(1), m.Reg(2), m.Place())
	}
}

// P3.1: Peek's bytes, and those that aren't there.
func TestPeek(t *testing.T) {
	b := []byte{10, 11, 12, 13, 14, 15}
	m := machine(t, b, 10)
	whole := append(slices.Clone(b), 0, 0, 0, 0)
	for at := range 11 {
		for n := 0; n <= 10-at; n++ {
			if p, e := m.Peek(at, n); e != api.OK || !bytes.Equal(p, whole[at:at+n]) {
				t.Errorf("P3.1: Peek(%d, %d): %v, error %d", at, n, p, e)
			}
		}
	}
	for _, c := range [][2]int{
		{0, 11}, {9, 2}, {10, 1}, {11, 1}, {-1, 1}, {-1, 2}, {-3, 20}, {0, -1}, {5, -1}, {5, -5}, {10, -1}, {-1, -1},
		{math.MaxInt, 1}, {1, math.MaxInt}, {math.MaxInt, math.MaxInt}, {math.MinInt, 1}, {5, math.MinInt}, {math.MinInt, math.MinInt}, {math.MinInt, math.MaxInt}, {1 << 32, 4}, {4, 1 << 32},
	} {
		if p, e := m.Peek(c[0], c[1]); p != nil || e != api.ErrRange {
			t.Errorf("P3.1: Peek(%d, %d): %v, error %d, want none, %d", c[0], c[1], p, e, api.ErrRange)
		}
	}
}

// P3.1: R: Rd is what chapter 1's operation makes of Rs1 and Rs2, whichever registers these are.
func TestOperations(t *testing.T) {
	for op := api.ADD; op <= api.REMUW; op++ {
		for _, a := range edges {
			for _, b := range edges {
				want, _ := num.Do(op, a, b)
				checkOperation(t, api.Instr{Op: op, Rd: 7, Rs1: 8, Rs2: 9}, a, b, want)
			}
			twice, _ := num.Do(op, a, a)
			checkOperation(t, api.Instr{Op: op, Rd: 31, Rs1: 31, Rs2: 31}, a, a, twice)
			checkOperation(t, api.Instr{Op: op, Rd: 0, Rs1: 4, Rs2: 5}, a, 3, 0)
			none, _ := num.Do(op, 0, a)
			checkOperation(t, api.Instr{Op: op, Rd: 6, Rs1: 0, Rs2: 6}, 1, a, none)
		}
	}
}

// checkOperation does one instruction; nothing but its Rd and the place may be another.
func checkOperation(t *testing.T, i api.Instr, a, b, want uint64) {
	t.Helper()
	m := loaded(t, i)
	m.Set(i.Rs1, a)
	m.Set(i.Rs2, b)
	p := look(t, m, 256)
	goesOn(t, m, 1)
	if i.Rd != 0 {
		p.registers[i.Rd] = want
	}
	p.place = 4
	if now := look(t, m, 256); now != p {
		t.Fatalf("P3.1: %v of %x, %x: %x, at %d, want %x", i, a, b, now.registers[i.Rd], now.place, want)
	}
}

// P3.1: those of Rs1 and Imm.
func TestImmediates(t *testing.T) {
	ops := map[int]int{
		api.ADDI: api.ADD, api.SLTI: api.SLT, api.SLTIU: api.SLTU, api.XORI: api.XOR, api.ORI: api.OR, api.ANDI: api.AND,
		api.SLLI: api.SLL, api.SRLI: api.SRL, api.SRAI: api.SRA, api.ADDIW: api.ADDW,
	}
	for op, plain := range ops {
		least, greatest := code.Room(op)
		for _, n := range []int{-2048, -2047, -65, -2, -1, 0, 1, 2, 31, 32, 33, 62, 63, 64, 255, 2046, 2047} {
			if n < least || n > greatest {
				continue
			}
			for _, a := range edges {
				want, _ := num.Do(plain, a, uint64(n))
				checkOperation(t, api.Instr{Op: op, Rd: 7, Rs1: 8, Imm: n}, a, 0, want)
				checkOperation(t, api.Instr{Op: op, Rd: 7, Rs1: 7, Imm: n}, a, a, want)
				checkOperation(t, api.Instr{Op: op, Rd: 0, Rs1: 7, Imm: n}, a, 0, 0)
			}
		}
	}
	for _, c := range []struct {
		op   int
		a    uint64
		n    int
		want uint64
	}{
		{api.ADDI, 5, -6, all}, {api.ADDI, all, 1, 0}, {api.SLTI, all, 0, 1}, {api.SLTI, 0, -1, 0},
		{api.SLTIU, 5, -1, 1}, {api.SLTIU, all, 5, 0}, {api.SLTIU, all, -1, 0}, {api.XORI, 0xf0, -1, all - 0xf0},
		{api.ORI, 1, -2048, all - 2046}, {api.ANDI, all, -16, all - 15}, {api.ANDI, 0x1234, 0xff, 0x34},
		{api.SLLI, 1, 63, top}, {api.SRLI, top, 63, 1}, {api.SRAI, top, 63, all}, {api.SRAI, top, 32, all - 1<<31 + 1},
		{api.ADDIW, 1<<31 - 1, 1, all - 1<<31 + 1}, {api.ADDIW, 1 << 31, 0, all - 1<<31 + 1}, {api.ADDIW, 1 << 32, -1, all},
	} {
		checkOperation(t, api.Instr{Op: c.op, Rd: 3, Rs1: 4, Imm: c.n}, c.a, 0, c.want)
	}
}

// P3.1: LUI, AUIPC.
func TestUpper(t *testing.T) {
	for _, c := range []struct {
		n    int
		want uint64
	}{
		{0, 0}, {1, 4096}, {-1, all - 4095}, {1<<19 - 1, 0x7ffff000}, {-1 << 19, 0xffffffff80000000}, {0x12345, 0x12345000},
	} {
		checkOperation(t, api.Instr{Op: api.LUI, Rd: 9, Imm: c.n}, 0, 0, c.want)
		checkOperation(t, api.Instr{Op: api.LUI, Rd: 0, Imm: c.n}, 0, 0, 0)
		checkOperation(t, api.Instr{Op: api.AUIPC, Rd: 9, Imm: c.n}, 0, 0, c.want)
		i := api.Instr{Op: api.AUIPC, Rd: 9, Imm: c.n}
		m := loaded(t, api.Instr{Op: api.ADD}, api.Instr{Op: api.ADD}, i)
		goesOn(t, m, 3)
		if m.Reg(9) != c.want+8 {
			t.Errorf("P3.1: %v at 8: %x, want %x", i, m.Reg(9), c.want+8)
		}
	}
}

// bytesAt128 is what stands there in the memory of withData.
var bytesAt128 = []byte{0x80, 0x7f, 0xff, 0x01, 0x02, 0x03, 0x04, 0xfe, 0x01, 0x23, 0x45, 0x67, 0x89, 0xab, 0xcd, 0xef}

func withData(t *testing.T, l ...api.Instr) *mach.Mach {
	t.Helper()
	b := make([]byte, 128)
	copy(b, text(t, l...))
	return machine(t, append(b, bytesAt128...), 256)
}

// P3.1: loads: the lowest byte first, signed but LBU, at Rs1 + Imm.
func TestLoads(t *testing.T) {
	for _, c := range []struct {
		op   int
		at   uint64
		size int
		want uint64
	}{
		{api.LB, 128, 1, all - 127}, {api.LB, 129, 1, 0x7f}, {api.LB, 130, 1, all}, {api.LB, 131, 1, 1}, {api.LB, 255, 1, 0},
		{api.LBU, 128, 1, 0x80}, {api.LBU, 129, 1, 0x7f}, {api.LBU, 130, 1, 0xff}, {api.LBU, 143, 1, 0xef}, {api.LBU, 255, 1, 0},
		{api.LW, 128, 4, 0x01ff7f80}, {api.LW, 132, 4, 0xfffffffffe040302}, {api.LW, 136, 4, 0x67452301}, {api.LW, 140, 4, 0xffffffffefcdab89}, {api.LW, 252, 4, 0},
		{api.LD, 128, 8, 0xfe04030201ff7f80}, {api.LD, 136, 8, 0xefcdab8967452301}, {api.LD, 248, 8, 0},
	} {
		for _, n := range []int{0, 8, -8, 2047, -2048, 100} {
			i := api.Instr{Op: c.op, Rd: 7, Rs1: 8, Imm: n}
			m := withData(t, i)
			m.Set(7, 99)
			m.Set(8, c.at-uint64(n))
			p := look(t, m, 256)
			p.registers[7], p.place = c.want, 4
			r, seen := m.Watch(nil, 1)
			if !same(r, api.Result{Steps: 1}) || !slices.Equal(seen, []api.Access{{Place: 0, At: c.at, Size: c.size}}) {
				t.Errorf("P3.1: %v at %d: %v, %v", i, c.at, r, seen)
			}
			if now := look(t, m, 256); now != p {
				t.Errorf("P3.1: %v at %d: %x, want %x, and nothing else", i, c.at, now.registers[7], c.want)
			}
		}
	}
	m := withData(t, api.Instr{Op: api.LD, Rd: 8, Rs1: 8}, api.Instr{Op: api.LB, Rd: 0, Rs1: 0, Imm: 130})
	m.Set(8, 128)
	if r, seen := m.Watch(nil, 2); r.State != api.Running || m.Reg(8) != 0xfe04030201ff7f80 || m.Reg(0) != 0 || len(seen) != 2 {
		t.Errorf("P3.1: a load to its own address's register, one to register 0: %x, %x, %v", m.Reg(8), m.Reg(0), seen)
	}
}

// P3.1: stores: the low bytes of Rs2, the lowest first, at Rs1 + Imm, and none beside.
func TestStores(t *testing.T) {
	x := uint64(0x8796a5b4c3d2e1f0)
	for _, c := range []struct {
		op   int
		at   uint64
		want string
	}{
		{api.SB, 64, "\xf0"}, {api.SB, 131, "\xf0"}, {api.SB, 255, "\xf0"},
		{api.SW, 64, "\xf0\xe1\xd2\xc3"}, {api.SW, 132, "\xf0\xe1\xd2\xc3"}, {api.SW, 252, "\xf0\xe1\xd2\xc3"},
		{api.SD, 64, "\xf0\xe1\xd2\xc3\xb4\xa5\x96\x87"}, {api.SD, 128, "\xf0\xe1\xd2\xc3\xb4\xa5\x96\x87"}, {api.SD, 248, "\xf0\xe1\xd2\xc3\xb4\xa5\x96\x87"},
	} {
		for _, n := range []int{0, 8, -8, 2047, -2048, 100} {
			i := api.Instr{Op: c.op, Rs1: 8, Rs2: 9, Imm: n}
			m := withData(t, i)
			m.Set(8, c.at-uint64(n))
			m.Set(9, x)
			p := look(t, m, 256)
			p.memory = p.memory[:c.at] + c.want + p.memory[int(c.at)+len(c.want):]
			p.place = 4
			r, seen := m.Watch(nil, 1)
			if !same(r, api.Result{Steps: 1}) || !slices.Equal(seen, []api.Access{{Place: 0, At: c.at, Size: len(c.want), Write: true}}) {
				t.Errorf("P3.1: %v at %d: %v, %v", i, c.at, r, seen)
			}
			if look(t, m, 256) != p {
				t.Errorf("P3.1: %v at %d: not these bytes, or others too", i, c.at)
			}
		}
	}
	m := withData(t, api.Instr{Op: api.SD, Imm: 128}, api.Instr{Op: api.SD, Rs1: 5, Rs2: 5})
	m.Set(5, 136)
	goesOn(t, m, 2)
	if b, _ := m.Peek(128, 16); string(b) != "\x00\x00\x00\x00\x00\x00\x00\x00\x88\x00\x00\x00\x00\x00\x00\x00" {
		t.Errorf("P3.1: register 0 stored, and a register at its own address: %x", b)
	}
}

// P3.1: loads and stores that don't stand in the memory, or not at a multiple of their bytes.
func TestAccessFaults(t *testing.T) {
	for op, n := range widths {
		size := uint64(n)
		wrong := []uint64{256, 256 + size, 264, 4096, 1 << 22, 1 << 32, 1<<32 + 128, top, top + 128, all, all - size + 1, all - 7, all - 255}
		for k := uint64(1); k < size; k++ {
			wrong = append(wrong, k, 128+k, 256-k, 248+k)
		}
		for _, at := range wrong {
			for _, imm := range []int{0, -1, 1, 2047, -2048} {
				i := api.Instr{Op: op, Rd: 7, Rs1: 8, Rs2: 9, Imm: imm}
				if op >= api.SB {
					i.Rd = 0
				} else {
					i.Rs2 = 0
				}
				m := withData(t, i)
				m.Set(8, at-uint64(imm))
				m.Set(7, 99)
				m.Set(9, 0x5555555555555555)
				faults(t, "an access", m)
			}
		}
	}
	faults(t, "a load to register 0", withData(t, api.Instr{Op: api.LW, Imm: 130}))
}

// P3.1: a memory whose size is no multiple of anything: at its end there are all bytes or a fault.
func TestAccessAtTheEnd(t *testing.T) {
	for size := 4; size < 40; size++ {
		for op, n := range widths {
			for at := uint64(0); at < 48; at++ {
				i := api.Instr{Op: op, Rs1: 8}
				m := machine(t, text(t, i), size)
				m.Set(8, at)
				want := api.Fault
				if at%uint64(n) == 0 && int(at)+int(n) <= size {
					want = api.Running
				}
				if r := m.Run(nil, 1); r.State != want {
					t.Errorf("P3.1: %v at %d of %d bytes: %v, want %d", i, at, size, r, want)
				}
			}
		}
	}
}

// P3.1: branches: to the place + Imm if it holds, else on.
func TestBranches(t *testing.T) {
	numbers := append([]uint64{3}, edges...)
	for _, a := range numbers {
		for _, b := range numbers {
			for op := api.BEQ; op <= api.BGEU; op++ {
				for _, n := range []int{8, -8, 0, 4094, -4096, 2} {
					i := api.Instr{Op: op, Rs1: 8, Rs2: 9, Imm: n}
					m := loaded(t, api.Instr{Op: api.ADD}, api.Instr{Op: api.ADD}, i)
					m.Jump(8)
					m.Set(8, a)
					m.Set(9, b)
					p := look(t, m, 256)
					p.place = 12
					if taken(op, a, b) {
						p.place = 8 + uint64(n)
					}
					goesOn(t, m, 1)
					if now := look(t, m, 256); now != p {
						t.Fatalf("P3.1: %v of %x, %x: at %x, want %x", i, a, b, now.place, p.place)
					}
				}
			}
		}
	}
}

// P3.1: branches written out: signed and unsigned, and of the same.
func TestBranchesWrittenOut(t *testing.T) {
	for _, c := range []struct {
		op    int
		a, b  uint64
		taken bool
	}{
		{api.BEQ, 5, 5, true}, {api.BEQ, 5, 6, false}, {api.BEQ, 1 << 32, 0, false}, {api.BNE, 5, 5, false}, {api.BNE, 0, top, true},
		{api.BLT, all, 0, true}, {api.BLT, 0, all, false}, {api.BLT, 5, 5, false}, {api.BLT, top, top - 1, true},
		{api.BGE, all, 0, false}, {api.BGE, 0, all, true}, {api.BGE, 5, 5, true},
		{api.BLTU, all, 0, false}, {api.BLTU, 0, all, true}, {api.BLTU, 5, 5, false},
		{api.BGEU, all, 0, true}, {api.BGEU, 0, all, false}, {api.BGEU, 5, 5, true},
	} {
		m := loaded(t, api.Instr{Op: c.op, Rs1: 1, Rs2: 2, Imm: 16})
		m.Set(1, c.a)
		m.Set(2, c.b)
		goesOn(t, m, 1)
		if (m.Place() == 16) != c.taken || (m.Place() == 4) == c.taken {
			t.Errorf("P3.1: branch %d of %x, %x: at %d", c.op, c.a, c.b, m.Place())
		}
	}
}

// P3.1: JAL, JALR: Rd is the place + 4; JALR's is asked of Rs1 as it was, with the lowest bit 0.
func TestJumps(t *testing.T) {
	for _, c := range []struct {
		i        api.Instr
		rs1      uint64
		place    uint64
		rd, next uint64
	}{
		{api.Instr{Op: api.JAL, Rd: 1, Imm: 64}, 0, 8, 12, 72},
		{api.Instr{Op: api.JAL, Rd: 1, Imm: -8}, 0, 8, 12, 0},
		{api.Instr{Op: api.JAL, Rd: 1, Imm: -16}, 0, 8, 12, all - 7},
		{api.Instr{Op: api.JAL, Rd: 1, Imm: 2}, 0, 8, 12, 10},
		{api.Instr{Op: api.JAL, Rd: 31, Imm: 1<<20 - 2}, 0, 0, 4, 1<<20 - 2},
		{api.Instr{Op: api.JAL, Imm: 12}, 0, 4, 0, 16},
		{api.Instr{Op: api.JALR, Rd: 1, Rs1: 5, Imm: 4}, 100, 8, 12, 104},
		{api.Instr{Op: api.JALR, Rd: 5, Rs1: 5, Imm: 4}, 100, 8, 12, 104},
		{api.Instr{Op: api.JALR, Rd: 5, Rs1: 5}, 101, 8, 12, 100},
		{api.Instr{Op: api.JALR, Rd: 5, Rs1: 5, Imm: 3}, 101, 0, 4, 104},
		{api.Instr{Op: api.JALR, Rd: 1, Rs1: 5, Imm: 1}, 100, 8, 12, 100},
		{api.Instr{Op: api.JALR, Rd: 1, Rs1: 5, Imm: -1}, 100, 8, 12, 98},
		{api.Instr{Op: api.JALR, Rd: 1, Rs1: 5, Imm: -4}, 0, 8, 12, all - 3},
		{api.Instr{Op: api.JALR, Rd: 1, Rs1: 5, Imm: 2047}, all, 8, 12, 2046},
		{api.Instr{Op: api.JALR, Rs1: 5}, top + 1, 12, 0, top},
		{api.Instr{Op: api.JALR, Rs1: 0, Imm: 40}, 77, 12, 0, 40},
	} {
		b := make([]byte, c.place)
		m := machine(t, append(b, text(t, c.i)...), 256)
		m.Jump(c.place)
		m.Set(c.i.Rs1, c.rs1)
		goesOn(t, m, 1)
		if m.Reg(c.i.Rd) != c.rd || m.Place() != c.next || m.Reg(0) != 0 {
			t.Errorf("P3.1: %v at %d: %x, to %x, want %x, to %x", c.i, c.place, m.Reg(c.i.Rd), m.Place(), c.rd, c.next)
		}
	}
}

// P3.1: places at which no step can be made.
func TestPlaceFaults(t *testing.T) {
	b := bytes.Repeat(text(t, api.Instr{Op: api.ADD}), 64)
	for _, at := range []uint64{1, 2, 3, 5, 6, 7, 250, 251, 253, 254, 255, 256, 257, 260, 4096, 1 << 32, 1<<32 + 4, top, top + 4, all - 3, all - 7, all} {
		m := machine(t, b, 256)
		m.Jump(at)
		faults(t, "a place", m)
	}
	m := machine(t, b, 256)
	m.Jump(252)
	if r := m.Run(nil, 5); !same(r, api.Result{State: api.Fault, Steps: 1}) || m.Place() != 256 {
		t.Errorf("P3.1: behind the last word: %v, at %d", r, m.Place())
	}
	for size := range 13 {
		m := machine(t, nil, size)
		if r := m.Run(nil, 5); !same(r, api.Result{State: api.Fault}) {
			t.Errorf("P3.1: of %d bytes that are 0: %v", size, r)
		}
		m = machine(t, b[:size], size)
		if r := m.Run(nil, 5); !same(r, api.Result{State: api.Fault, Steps: size / 4}) {
			t.Errorf("P3.1: of %d bytes: %v", size, r)
		}
	}
}

// P3.1: words that are no instructions.
func TestWordFaults(t *testing.T) {
	for _, w := range []uint32{0, 1<<32 - 1, 0x00100073, 0x00006003, 0x0200103b, 0x10001013, 0x000000f3, 0x00001003} {
		m := machine(t, binary.LittleEndian.AppendUint32(nil, w), 256)
		for k := 1; k < 32; k++ {
			m.Set(k, 128)
		}
		faults(t, "a word", m)
	}
}

// P3.1: the text is in the memory: what is stored there is what is done next.
func TestTextIsStoredTo(t *testing.T) {
	w, _ := code.Encode(api.Instr{Op: api.ADDI, Rd: 7, Rs1: 7, Imm: 100})
	m := loaded(t, api.Instr{Op: api.ADDI, Rd: 7, Rs1: 7, Imm: 1}, api.Instr{Op: api.SW, Rs2: 5}, api.Instr{Op: api.JAL, Imm: -8})
	m.Set(5, uint64(w))
	goesOn(t, m, 4)
	if m.Reg(7) != 101 {
		t.Errorf("P3.1: the instruction that was stored isn't done: %d, want 101", m.Reg(7))
	}
	goesOn(t, m, 3)
	if m.Reg(7) != 201 {
		t.Errorf("P3.1: in the next run: %d, want 201", m.Reg(7))
	}
}

// called is a machine that makes an ECALL by register 17, of register 10.
func called(t *testing.T, which, of uint64) *mach.Mach {
	t.Helper()
	m := loaded(t, api.Instr{Op: api.ECALL})
	m.Set(17, which)
	m.Set(10, of)
	return m
}

// P3.1: ECALL, by register 17.
func TestCalls(t *testing.T) {
	for _, of := range append([]uint64{0x1ab, 0x1234567890abcd07}, edges...) {
		for _, c := range []struct {
			which  uint64
			want   api.Result
			behind uint64
		}{
			{1, api.Result{Out: []byte{byte(of)}, Steps: 1}, of},
			{2, api.Result{Steps: 1}, 200},
			{3, api.Result{State: api.Exit, Code: byte(of), Steps: 1}, of},
			{4, api.Result{State: api.Trap, Steps: 1}, of},
			{5, api.Result{State: api.NoRoom, Steps: 1}, of},
		} {
			m := called(t, c.which, of)
			p := look(t, m, 256)
			p.registers[10], p.place = c.behind, 4
			if r := m.Run([]byte{200, 201}, 1); !same(r, c.want) || look(t, m, 256) != p {
				t.Errorf("P3.1: ECALL %d of %x: %v, %x, at %d, want %v", c.which, of, r, m.Reg(10), m.Place(), c.want)
			}
		}
		for _, which := range []uint64{0, 6, 7, 255, 257, 1 << 8, 1<<32 + 1, 1<<32 + 3, top + 2, all, all - 1} {
			faults(t, "an ECALL", called(t, which, of))
		}
	}
}

// P3.1: each Run has its input from the beginning on; behind its end all bits are 1.
func TestInput(t *testing.T) {
	m := loaded(t, api.Instr{Op: api.ECALL}, api.Instr{Op: api.JAL, Imm: -4})
	m.Set(17, 2)
	read := func(input []byte) uint64 {
		t.Helper()
		if r := m.Run(input, 2); r.State != api.Running || r.Steps != 2 || len(r.Out) != 0 {
			t.Fatalf("P3.1: %v", r)
		}
		return m.Reg(10)
	}
	for _, c := range []struct {
		input []byte
		want  uint64
	}{{[]byte{7, 8}, 7}, {[]byte{7, 8}, 7}, {nil, all}, {[]byte{}, all}, {[]byte{255}, 255}, {[]byte{0}, 0}, {nil, all}} {
		if x := read(c.input); x != c.want {
			t.Errorf("P3.1: of %v: %x, want %x", c.input, x, c.want)
		}
	}
	m = loaded(t, api.Instr{Op: api.ADDI, Rd: 17, Imm: 2}, api.Instr{Op: api.ECALL}, api.Instr{Op: api.ADDI, Rd: 17, Imm: 1}, api.Instr{Op: api.ECALL}, api.Instr{Op: api.JAL, Imm: -16})
	if r := m.Run([]byte("a\x00\xffb"), 30); !same(r, api.Result{Out: []byte("a\x00\xffb\xff\xff"), Steps: 30}) {
		t.Errorf("P3.1: what is put in is put out, then -1's: %v", r)
	}
}

// P3.1: an ADDI 0, 0, 1 is a mark, and nothing else is.
func TestMarks(t *testing.T) {
	mark := api.Instr{Op: api.ADDI, Imm: 1}
	m := loaded(t, mark, mark, api.Instr{Op: api.ADDI, Rd: 1, Imm: 1}, mark)
	p := look(t, m, 256)
	r := m.Run(nil, 4)
	p.registers[1], p.place = 1, 16
	if !same(r, api.Result{Steps: 4, Checks: 3}) || look(t, m, 256) != p {
		t.Errorf("P3.1: marks: %v", r)
	}
	for _, i := range []api.Instr{
		{Op: api.ADDI}, {Op: api.ADDI, Imm: -1}, {Op: api.ADDI, Imm: 2}, {Op: api.ADDI, Rs1: 1, Imm: 1}, {Op: api.ADDI, Rd: 1, Imm: 1}, {Op: api.ADDI, Imm: 1025},
		{Op: api.ADDIW, Imm: 1}, {Op: api.ORI, Imm: 1}, {Op: api.XORI, Imm: 1}, {Op: api.SLTI, Imm: 1}, {Op: api.ANDI, Imm: 1}, {Op: api.SLLI, Imm: 1}, {Op: api.ADD}, {Op: api.LUI, Imm: 1}, {Op: api.AUIPC, Imm: 1}, {Op: api.LB, Imm: 1},
	} {
		if r := loaded(t, i).Run(nil, 1); !same(r, api.Result{Steps: 1}) {
			t.Errorf("P3.1: %v isn't a mark: %v", i, r)
		}
	}
	m = loaded(t, mark, api.Instr{Op: api.JAL, Imm: -4})
	for _, c := range [][2]int{{3, 2}, {1, 0}, {2, 1}, {0, 0}} {
		if r := m.Run(nil, c[0]); r.Checks != c[1] {
			t.Errorf("P3.1: the marks of this run: %v, want %d", r, c[1])
		}
	}
}

// P3.1: at most fuel steps, none below 1; what is tried takes fuel too, so a fault isn't met without.
func TestFuel(t *testing.T) {
	for _, fuel := range []int{math.MinInt, -1 << 32, -1, 0, 1, 2, 10, 1000} {
		m := loaded(t, api.Instr{Op: api.ADDI, Rd: 1, Rs1: 1, Imm: 1}, api.Instr{Op: api.JAL, Imm: -4})
		want := max(fuel, 0)
		if r := m.Run(nil, fuel); !same(r, api.Result{Steps: want}) || m.Reg(1) != uint64(want+1)/2 {
			t.Errorf("P3.1: with fuel %d: %v, %d", fuel, r, m.Reg(1))
		}
	}
	l := []api.Instr{{Op: api.ADDI, Rd: 17, Imm: 3}, {Op: api.ECALL}}
	for _, c := range []struct {
		fuel, state, steps int
	}{{0, api.Running, 0}, {1, api.Running, 1}, {2, api.Exit, 2}, {3, api.Exit, 2}, {math.MaxInt, api.Exit, 2}} {
		if r := loaded(t, l...).Run(nil, c.fuel); !same(r, api.Result{State: c.state, Steps: c.steps}) {
			t.Errorf("P3.1: with fuel %d: %v", c.fuel, r)
		}
	}
	for _, c := range []struct {
		fuel, state, steps int
	}{{-1, api.Running, 0}, {0, api.Running, 0}, {1, api.Running, 1}, {2, api.Fault, 1}, {math.MaxInt, api.Fault, 1}} {
		if r := loaded(t, api.Instr{Op: api.ADD}).Run(nil, c.fuel); !same(r, api.Result{State: c.state, Steps: c.steps}) {
			t.Errorf("P3.1: with fuel %d: %v", c.fuel, r)
		}
	}
}

// P3.1: what isn't Running makes no step, in no later run, and is still what it was, with its Code.
func TestStopped(t *testing.T) {
	for _, c := range []struct {
		which uint64
		want  api.Result
	}{
		{3, api.Result{State: api.Exit, Code: 0x9c}}, {4, api.Result{State: api.Trap}}, {5, api.Result{State: api.NoRoom}}, {6, api.Result{State: api.Fault}},
	} {
		m := loaded(t, api.Instr{Op: api.ADDI, Imm: 1}, api.Instr{Op: api.ECALL}, api.Instr{Op: api.ADDI, Rd: 1, Imm: 1})
		m.Set(17, c.which)
		m.Set(10, 0x39c)
		first := m.Run(nil, 100)
		if first.State != c.want.State || first.Code != c.want.Code || first.Checks != 1 {
			t.Errorf("P3.1: %v, want %v", first, c.want)
		}
		m.Jump(0)
		m.Set(17, 1)
		p := look(t, m, 256)
		for _, fuel := range []int{-1, 0, 1, 100} {
			if r := m.Run([]byte{1}, fuel); !same(r, c.want) {
				t.Errorf("P3.1: stopped, and run again: %v, want %v", r, c.want)
			}
			if r, seen := m.Watch([]byte{1}, fuel); !same(r, c.want) || len(seen) != 0 {
				t.Errorf("P3.1: stopped, and watched: %v, %v, want %v", r, seen, c.want)
			}
		}
		if look(t, m, 256) != p {
			t.Errorf("P3.1: what has stopped has changed")
		}
	}
}

// P3.1: Watch tells all loads and stores of its own steps, in order, those that faulted not.
func TestWatch(t *testing.T) {
	m := withData(t,
		api.Instr{Op: api.LB, Rd: 1, Imm: 129}, api.Instr{Op: api.SD, Rs2: 1, Imm: 200}, api.Instr{Op: api.ADDI, Imm: 1},
		api.Instr{Op: api.LD, Rd: 0, Imm: 200}, api.Instr{Op: api.SB, Rs2: 1, Imm: 255}, api.Instr{Op: api.LBU, Rd: 2, Imm: 255},
		api.Instr{Op: api.SW, Imm: 252}, api.Instr{Op: api.LW, Rd: 2, Imm: 252}, api.Instr{Op: api.LD, Rd: 2, Imm: 252})
	want := []api.Access{
		{Place: 0, At: 129, Size: 1}, {Place: 4, At: 200, Size: 8, Write: true}, {Place: 12, At: 200, Size: 8}, {Place: 16, At: 255, Size: 1, Write: true},
		{Place: 20, At: 255, Size: 1}, {Place: 24, At: 252, Size: 4, Write: true}, {Place: 28, At: 252, Size: 4},
	}
	r, seen := m.Watch(nil, 3)
	if !same(r, api.Result{Steps: 3, Checks: 1}) || !slices.Equal(seen, want[:2]) {
		t.Errorf("P3.1: %v, %v, want %v", r, seen, want[:2])
	}
	m.Run(nil, 1)
	r, seen = m.Watch(nil, 100)
	if !same(r, api.Result{State: api.Fault, Steps: 4}) || !slices.Equal(seen, want[3:]) {
		t.Errorf("P3.1: %v, %v, want %v", r, seen, want[3:])
	}
}
