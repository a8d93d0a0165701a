package texts_test

import (
	"math"
	"testing"

	"hauberk/api"
	"hauberk/check"
	"hauberk/parse"
	"hauberk/texts"
)

// Nearly all texts are programs that check; the others are just too long, or too deep.
func TestRight(t *testing.T) {
	right(t, texts.Random)
	right(t, texts.Straight)
}

func right(t *testing.T, made func(int) (string, []byte)) {
	t.Helper()
	right := 0
	for seed := range 500 {
		text, _ := made(seed)
		p, at, e := parse.Parse(text)
		if e == api.ErrFull || e == api.ErrDeep {
			continue
		}
		if e == api.OK {
			_, at, e = check.Check(p)
		}
		if e != api.OK {
			t.Fatalf("seed %d: %s: %d at %d", seed, text, e, at)
		}
		right++
	}
	if right < 450 {
		t.Errorf("only %d programs", right)
	}
}

// Of one seed it is always the same, of no two the same.
func TestSeeds(t *testing.T) {
	differ(t, texts.Random)
	differ(t, texts.Straight)
}

func differ(t *testing.T, made func(int) (string, []byte)) {
	t.Helper()
	seen := map[string]int{}
	for _, seed := range []int{0, 1, 2, 3, 4, 5, 1000, -1, math.MinInt, math.MaxInt} {
		text, input := made(seed)
		again, same := made(seed)
		if again != text || string(same) != string(input) {
			t.Errorf("seed %d: %s, then %s", seed, text, again)
		}
		if other, ok := seen[text]; ok {
			t.Errorf("seeds %d and %d: %s", other, seed, text)
		}
		seen[text] = seed
	}
}
