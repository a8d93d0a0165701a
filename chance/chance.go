// Package chance is for tests: it makes numbers that look as if nothing told them.
package chance

// Source makes numbers; of one seed they are always the same.
type Source struct{ state uint64 }

// New: a source, by a seed.
func New(seed int) Source { return Source{uint64(seed)} }

// Next is any number.
func (s *Source) Next() uint64 {
	s.state += 0x9e3779b97f4a7c15
	x := s.state
	x = (x ^ x>>30) * 0xbf58476d1ce4e5b9
	x = (x ^ x>>27) * 0x94d049bb133111eb
	return x ^ x>>31
}

// Below is a number from 0 to below n.
func (s *Source) Below(n int) int { return int(s.Next() % uint64(n)) }

// Bytes are at most so many.
func (s *Source) Bytes(most int) []byte {
	l := make([]byte, s.Below(most+1))
	for k := range l {
		l[k] = byte(s.Next())
	}
	return l
}

// Order is the numbers from 0 to below n, in any order.
func (s *Source) Order(n int) []int {
	l := make([]int, n)
	for k := range l {
		other := s.Below(k + 1)
		l[k], l[other] = l[other], k
	}
	return l
}

// Pick is one of some.
func Pick[T any](s *Source, l ...T) T { return l[s.Below(len(l))] }
