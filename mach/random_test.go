package mach_test

import (
	"bytes"
	"math"
	"math/rand"
	"slices"
	"testing"

	"hauberk/api"
	"hauberk/mach"
)

const sampleSize = textSize + dataSize

func (s sample) machine(t *testing.T) *mach.Mach {
	t.Helper()
	m := machine(t, s.text, sampleSize)
	for r, x := range s.registers {
		m.Set(r, x)
	}
	m.Jump(s.place)
	return m
}

func (s sample) model() *model {
	m := &model{memory: make([]byte, sampleSize), registers: s.registers, place: s.place}
	copy(m.memory, s.text)
	return m
}

func (m *model) look() picture {
	return picture{registers: m.registers, place: m.place, memory: string(m.memory)}
}

// P3.1: random programs do what the model does, step for step and all at once.
func TestModel(t *testing.T) {
	r := rand.New(rand.NewSource(3))
	states, steps, accesses := map[int]int{}, 0, 0
	for k := range 20000 {
		s := newSample(r)
		fuel := r.Intn(120)
		m, n := s.machine(t), s.model()
		got, seen := m.Watch(s.input, fuel)
		want, accessed := n.run(s.input, fuel)
		if !same(got, want) || !slices.Equal(seen, accessed) {
			t.Fatalf("P3.1: program %d, fuel %d: %v, %v, want %v, %v", k, fuel, got, seen, want, accessed)
		}
		if now := look(t, m, sampleSize); now != n.look() {
			t.Fatalf("P3.1: program %d, fuel %d: %v, want %v", k, fuel, now, n.look())
		}
		states[got.State]++
		steps += got.Steps
		accesses += len(seen)
	}
	for _, state := range []int{api.Running, api.Exit, api.Trap, api.NoRoom, api.Fault} {
		if states[state] < 100 {
			t.Errorf("the random programs don't try enough: %v", states)
		}
	}
	if steps < 400000 || accesses < 20000 {
		t.Errorf("the random programs don't try enough: %d steps, %d accesses", steps, accesses)
	}
}

// left is what a run of so many steps leaves of the input, as the model has it.
func (s sample) left(fuel int) []byte {
	n := s.model()
	n.run(s.input, fuel)
	return n.in
}

// P3.2: a run of a steps, and one of b with what is left of the input, is one of a + b; watched or not.
func TestParts(t *testing.T) {
	r := rand.New(rand.NewSource(4))
	for k := range 6000 {
		s := newSample(r)
		a, b := r.Intn(60), r.Intn(60)
		once, parts, plain := s.machine(t), s.machine(t), s.machine(t)
		want, wantSeen := once.Watch(s.input, a+b)
		first, seen := parts.Watch(s.input, a)
		second, more := parts.Watch(s.left(a), b)
		sum := api.Result{State: second.State, Code: second.Code, Why: second.Why, Out: append(first.Out, second.Out...), Steps: first.Steps + second.Steps, Checks: first.Checks + second.Checks}
		if !same(sum, want) || !slices.Equal(append(seen, more...), wantSeen) {
			t.Fatalf("P3.2: program %d: %d and %d steps: %v and %v, at once %v", k, a, b, first, second, want)
		}
		if got := plain.Run(s.input, a+b); !same(got, want) {
			t.Fatalf("P3.2: program %d: %v, watched %v", k, got, want)
		}
		p := look(t, once, sampleSize)
		if look(t, parts, sampleSize) != p || look(t, plain, sampleSize) != p {
			t.Fatalf("P3.2: program %d: %d and %d steps leave another machine", k, a, b)
		}
	}
}

// P3.2: step for step too, some watched and some not.
func TestStepForStep(t *testing.T) {
	r := rand.New(rand.NewSource(5))
	for k := range 1000 {
		s := newSample(r)
		once, parts := s.machine(t), s.machine(t)
		want := once.Run(s.input, 50)
		sum := api.Result{}
		for fuel := range 50 {
			var one api.Result
			if k+fuel&1 == 0 {
				one = parts.Run(s.left(fuel), 1)
			} else {
				one, _ = parts.Watch(s.left(fuel), 1)
			}
			sum = api.Result{State: one.State, Code: one.Code, Out: append(sum.Out, one.Out...), Steps: sum.Steps + one.Steps, Checks: sum.Checks + one.Checks}
		}
		if !same(sum, want) || look(t, once, sampleSize) != look(t, parts, sampleSize) {
			t.Fatalf("P3.2: program %d: step for step %v, at once %v", k, sum, want)
		}
	}
}

// P3.3: New's bytes stay, spare room included, and aren't kept.
func TestBytesHandedIn(t *testing.T) {
	b := append(text(t, api.Instr{Op: api.SD, Rs2: 5, Imm: 8}, api.Instr{Op: api.SW, Rs2: 5}), make([]byte, 64)...)
	whole := slices.Clone(b)
	m := machine(t, b[:8], 32)
	m.Set(5, all)
	goesOn(t, m, 2)
	if !bytes.Equal(b, whole) {
		t.Errorf("P3.3: New's bytes have changed: %x", b)
	}
	m = machine(t, b[:8:8], 8)
	for k := range b {
		b[k] = 0xaa
	}
	if p, _ := m.Peek(0, 8); !bytes.Equal(p, whole[:8]) {
		t.Errorf("P3.3: New's bytes are kept: %x", p)
	}
}

// P3.3: the input stays, and isn't kept.
func TestInputHandedIn(t *testing.T) {
	m := loaded(t, api.Instr{Op: api.ADDI, Rd: 17, Imm: 2}, api.Instr{Op: api.ECALL}, api.Instr{Op: api.ADDI, Rd: 17, Imm: 1}, api.Instr{Op: api.ECALL}, api.Instr{Op: api.JAL, Imm: -16})
	room := []byte("abcdefgh")
	r, _ := m.Watch(room[:3], 10)
	if string(room) != "abcdefgh" || string(r.Out) != "ab" {
		t.Errorf("P3.3: the input is %q, put out is %q", room, r.Out)
	}
	out := append(r.Out, "zzzzzzzz"...)
	clear(out)
	clear(r.Out)
	if string(room) != "abcdefgh" {
		t.Errorf("P3.3: what was put out is the input's: %q", room)
	}
	room[2] = 'x'
	if r := m.Run(nil, 5); string(r.Out) != "\xff" {
		t.Errorf("P3.3: the input is kept: %q", r.Out)
	}
}

// P3.3: answers are apart from the machine, and from one another.
func TestAnswersAreNew(t *testing.T) {
	put := loaded(t, api.Instr{Op: api.ECALL}, api.Instr{Op: api.LB, Rd: 1}, api.Instr{Op: api.JAL, Imm: -8})
	put.Set(17, 1)
	put.Set(10, 'a')
	first, seen := put.Watch(nil, 9)
	second, more := put.Watch(nil, 6)
	_ = append(first.Out, "zzz"...)
	_ = append(seen, api.Access{}, api.Access{}, api.Access{})
	clear(first.Out)
	clear(seen)
	if string(second.Out) != "aa" || !slices.Equal(more, []api.Access{{Place: 4, Size: 1}, {Place: 4, Size: 1}}) {
		t.Errorf("P3.3: a later run's answer is an earlier one's: %v, %v", second, more)
	}
	m := machine(t, []byte("hauberk."), 16)
	p, _ := m.Peek(2, 4)
	q, _ := m.Peek(2, 4)
	_ = append(p, "zzz"...)
	clear(p[:cap(p)])
	if string(q) != "uber" {
		t.Errorf("P3.3: two Peeks are one: %q", q)
	}
	if now, _ := m.Peek(0, 16); string(now) != "hauberk.\x00\x00\x00\x00\x00\x00\x00\x00" {
		t.Errorf("P3.3: a Peek is the memory: %q", now)
	}
}

// P3.3, P7 (R8): what was told by Peek stays when the machine goes on; two machines of the same bytes are apart.
func TestMachinesAreApart(t *testing.T) {
	b := text(t, api.Instr{Op: api.SD, Rs2: 5, Imm: 64}, api.Instr{Op: api.ADDI, Rd: 5, Rs1: 5, Imm: 1}, api.Instr{Op: api.JAL, Imm: -8})
	m, n := machine(t, b, 128), machine(t, b, 128)
	m.Set(5, 9)
	goesOn(t, m, 3)
	p, _ := m.Peek(64, 8)
	goesOn(t, m, 3)
	if p[0] != 9 {
		t.Errorf("P3.3: what was told has changed: %v", p)
	}
	if now := look(t, n, 128); now.registers != [32]uint64{} || now.place != 0 || now.memory != string(b)+string(make([]byte, 128-len(b))) {
		t.Errorf("P7: R8: a machine has changed by another")
	}
}

// P7 (R8): the same programs answer the same again, whatever ran between.
func TestSameAgain(t *testing.T) {
	for seed := range int64(200) {
		s := newSample(rand.New(rand.NewSource(seed)))
		a, seenA := s.machine(t).Watch(s.input, 100)
		newSample(rand.New(rand.NewSource(seed+1))).machine(t).Run(nil, 100)
		b, seenB := s.machine(t).Watch(s.input, 100)
		if !same(a, b) || !slices.Equal(seenA, seenB) {
			t.Fatalf("P7: R8: program %d: %v, and then %v", seed, a, b)
		}
	}
}

// P6: each call answers, and none panics, of machines of any bytes, with any numbers.
func TestNoPanic(t *testing.T) {
	r := rand.New(rand.NewSource(6))
	numbers := []int{math.MinInt, -1 << 32, -5, -1, 0, 1, 4, 31, 32, 100, api.MaxMemory, 1 << 32, math.MaxInt}
	number := func() int { return numbers[r.Intn(len(numbers))] }
	for range 20000 {
		b := make([]byte, r.Intn(64))
		r.Read(b)
		size := len(b) + r.Intn(40)
		m := machine(t, b, size)
		for range 5 {
			m.Jump(edges[r.Intn(len(edges))])
			m.Set(number(), edges[r.Intn(len(edges))])
			m.Reg(number())
			m.Peek(number(), number())
			m.Run(b, min(number(), 50))
			m.Watch(nil, min(number(), 50))
		}
		if m.Reg(0) != 0 {
			t.Fatal("P3.1: register 0 isn't 0")
		}
		look(t, m, size)
	}
	for _, n := range numbers {
		mach.New(nil, n)
		mach.New([]byte{1}, n)
	}
}
