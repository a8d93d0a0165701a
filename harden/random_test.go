package harden_test

import (
	"strconv"
	"strings"
	"testing"

	"hauberk/api"
	"hauberk/chance"
	"hauberk/fat"
	"hauberk/harden"
	"hauberk/mid"
	"hauberk/parse"
	"hauberk/samples"
	"hauberk/texts"
)

// each is more instructions than one of blocks becomes, with the clearing of a call's slots.
const each = 40

// holds asks that a hardened unit does what the unit does with so much fuel, and answers what that is; NoRoom, where the hardened one alone has no room.
func holds(t *testing.T, what string, u api.Unit, input []byte, fuel int) api.Result {
	t.Helper()
	h := harden.Unit(u)
	shaped(t, what, u, h)
	less, got := mid.Run(u, input, fuel), fat.Run(h, input, each*(fuel+1))
	whole := less
	if less.State == api.Running {
		whole = mid.Run(u, input, fuel+4*got.Steps)
	}
	ok := got.State == way(whole.State) && got.Code == whole.Code && string(got.Out) == string(whole.Out)
	switch got.State {
	case api.Running:
		ok = less.State == api.Running && strings.HasPrefix(string(whole.Out), string(got.Out)) && strings.HasPrefix(string(got.Out), string(less.Out))
	case api.NoRoom:
		ok = got.Code == 0 && strings.HasPrefix(string(whole.Out), string(got.Out))
	}
	if !ok || got.Why != api.OK {
		t.Fatalf("P13.2: %s, with %q and %d of fuel: %v, want as %v", what, input, fuel, got, whole)
	}
	if got.State != api.NoRoom {
		return less
	}
	return got
}

// ways asks that so many runs at least have stopped in each way in which one may.
func ways(t *testing.T, tally map[[2]int]int, least int) {
	t.Helper()
	for _, way := range [][2]int{{api.Running, 0}, {api.Exit, 0}, {api.NoRoom, 0}, {api.Stuck, int(api.ErrGone)}, {api.Stuck, int(api.ErrBounds)}, {api.Stuck, int(api.ErrNull)}, {api.Stuck, int(api.ErrFree)}} {
		if tally[way] < least {
			t.Errorf("only %d units stop by %v", tally[way], way)
		}
	}
}

// programs hardens random ones.
func programs(t *testing.T, made func(int) (string, []byte), straight bool) {
	t.Helper()
	tally := map[[2]int]int{}
	for seed := range 1500 {
		text, input := made(seed)
		_, _, e := parse.Parse(text)
		if e == api.ErrDeep || e == api.ErrFull {
			continue
		}
		u := lowered(t, text)
		r := holds(t, text, u, input, 800)
		if less := mid.Run(u, input, 800); straight && less.State != api.Running && (less.State != r.State || string(less.Out) != string(r.Out)) {
			t.Errorf("P13.2: %s, with %q: %v, want %v", text, input, r, less)
		}
		tally[[2]int{r.State, int(r.Why)}]++
	}
	ways(t, tally, 5)
}

// P13.1, P13.2: random programs; such whose pointers go straight have no less room, where they end.
func TestPrograms(t *testing.T) {
	programs(t, texts.Random, false)
	programs(t, texts.Straight, true)
}

// P13.1, P13.2: random units whose loads and stores all have 8 bytes, so that numbers and pointers meet.
func TestUnits(t *testing.T) {
	tally := map[[2]int]int{}
	for seed := range 8000 {
		u, input := samples.Blocks(seed, 8)
		if answers(u, "main") == 5 {
			continue // no program's main answers a pointer
		}
		r := holds(t, "seed "+strconv.Itoa(seed), u, input, 100)
		tally[[2]int{r.State, int(r.Why)}]++
	}
	ways(t, tally, 15)
}

// P6: of units that aren't well formed nothing is promised, but nothing panics, and each call ends.
func TestWild(t *testing.T) {
	for seed := range 30000 {
		u := samples.Wild(seed)
		fat.Run(harden.Unit(u), nil, 100)
	}
	for seed := range 10000 {
		u, input := samples.Blocks(seed, 1, 4, 8)
		fat.Run(harden.Unit(u), input, 300)
		s := chance.New(seed)
		samples.Spoil(&s, &u)
		fat.Run(harden.Unit(u), input, 300)
	}
}
