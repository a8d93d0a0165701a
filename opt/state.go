package opt

// state is what is known at a place of a function. Behind the registers stand some that are none: as long as such a one has the same number, what it stands for hasn't changed.
type state struct {
	*numbers
	here   int                 // the block that the place is in
	now    []int               // which number each register has; lost, if nothing is known of it
	home   map[int]int         // the register that had a number first: it is read for it, as long as it has it
	inside map[[3]int]int      // value, base and bound of checked pointers, and for how many bytes they are right
	held   map[[3]int]struct{} // lock and key of checked pointers, and the number that stood for locks then
	log    []func()            // how to forget
}

// lost is had by a register that was changed on some way to here.
const lost = -1

func newState(registers int) *state {
	return &state{
		numbers: newNumbers(),
		now:     make([]int, registers),
		home:    map[int]int{},
		inside:  map[[3]int]int{},
		held:    map[[3]int]struct{}{},
	}
}

// has is the number of a register; of one that was lost it is one that nothing else is known of.
func (s *state) has(r int) int {
	if s.now[r] == lost {
		s.set(r, s.of(made{op: joined, a: s.here, b: r}))
	}
	return s.now[r]
}

// holder is the register that is read for a number, if it has it.
func (s *state) holder(k int) (int, bool) {
	r := s.home[k]
	return r, s.now[r] == k
}

// set makes a number that of a register.
func (s *state) set(r, k int) {
	old := s.now[r]
	s.now[r] = k
	s.log = append(s.log, func() { s.now[r] = old })
	if _, ok := s.holder(k); !ok {
		s.settle(k, r)
	}
}

// settle has a register read for a number.
func (s *state) settle(k, r int) {
	old := s.home[k]
	s.home[k] = r
	s.log = append(s.log, func() { s.home[k] = old })
}

// past is what a register had.
type past struct{ register, number int }

// lose forgets what some registers have, and adds it to what had been forgotten.
func (s *state) lose(registers []int, old []past) []past {
	for _, r := range registers {
		if k := s.now[r]; k != lost {
			old = append(old, past{r, k})
			s.now[r] = lost
		}
	}
	return old
}

// regain goes back behind that.
func (s *state) regain(old []past) {
	for _, p := range old {
		s.now[p.register] = p.number
	}
}

// forget goes back to where so much was known.
func (s *state) forget(known int) {
	for len(s.log) > known {
		last := len(s.log) - 1
		s.log[last]()
		s.log = s.log[:last]
	}
}
