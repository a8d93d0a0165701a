package chance_test

import (
	"math"
	"slices"
	"testing"

	"hauberk/chance"
)

// Of one seed the numbers are always the same, of no two the same.
func TestSeeds(t *testing.T) {
	seen := map[uint64]int{}
	for _, seed := range []int{0, 1, 2, 1000, -1, math.MinInt, math.MaxInt} {
		s, again := chance.New(seed), chance.New(seed)
		for range 100 {
			n := s.Next()
			if other, ok := seen[n]; ok || n != again.Next() {
				t.Errorf("seeds %d and %d: %d", seed, other, n)
			}
			seen[n] = seed
		}
	}
}

// What is picked is one of those that there are, and each is picked at some time.
func TestPicked(t *testing.T) {
	s := chance.New(3)
	below, picked, lengths := map[int]int{}, map[string]int{}, map[int]int{}
	for range 1000 {
		below[s.Below(5)]++
		picked[chance.Pick(&s, "a", "b", "c")]++
		lengths[len(s.Bytes(4))]++
	}
	for k := range 5 {
		if below[k] < 100 || lengths[k] < 100 {
			t.Errorf("%d: %d times below 5, %d times as many bytes", k, below[k], lengths[k])
		}
	}
	if len(below) != 5 || len(lengths) != 5 || len(picked) != 3 || picked["a"] < 200 || picked["b"] < 200 || picked["c"] < 200 {
		t.Errorf("%v, %v, %v", below, lengths, picked)
	}
}

func TestOrder(t *testing.T) {
	s := chance.New(4)
	first := map[int]int{}
	for n := range 8 {
		for range 200 {
			l := s.Order(n)
			if n == 7 {
				first[l[0]]++
			}
			slices.Sort(l)
			for k := range n {
				if len(l) != n || l[k] != k {
					t.Fatalf("%d: %v", n, l)
				}
			}
		}
	}
	if len(first) != 7 {
		t.Errorf("%v", first)
	}
}
