package texts

// source makes numbers that look as if nothing told them; of one state they are always the same.
type source struct{ state uint64 }

func (s *source) next() uint64 {
	s.state += 0x9e3779b97f4a7c15
	x := s.state
	x = (x ^ x>>30) * 0xbf58476d1ce4e5b9
	x = (x ^ x>>27) * 0x94d049bb133111eb
	return x ^ x>>31
}

func (s *source) below(n int) int { return int(s.next() % uint64(n)) }

func pick[T any](m *maker, l ...T) T { return l[m.below(len(l))] }
