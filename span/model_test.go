package span_test

import (
	"slices"
	"testing"

	"hauberk/api"
	"hauberk/span"
)

// reads and writes are told here by the ops themselves, so that nothing is taken from what the layer asks.
func reads(i api.Ins, r int) bool {
	switch i.Op {
	case api.MMove, api.MNarrow, api.MIf, api.MPut, api.MExit, api.FLoad, api.FRead, api.FMalloc:
		return i.A == r
	case api.MOp, api.FStore:
		return i.A == r || i.B == r
	case api.FWrite:
		return i.A == r || slices.Contains(i.Args, r)
	case api.FCheck, api.FFree, api.FCall, api.FRet:
		return slices.Contains(i.Args, r)
	}
	return false
}

func writes(i api.Ins, r int) bool {
	switch i.Op {
	case api.MConst, api.MMove, api.MOp, api.MNarrow, api.MGet, api.FTop, api.FSlot, api.FLock, api.FKey, api.FLoad:
		return i.Dst == r
	case api.FRead, api.FMalloc, api.FCall:
		return slices.Contains(i.Outs, r)
	}
	return false
}

// follow are the places that may come behind one.
func follow(i api.Ins, at int) []int {
	switch i.Op {
	case api.FRet, api.MExit:
		return nil
	case api.MJump:
		return []int{i.To}
	case api.MIf:
		return []int{at + 1, i.To}
	}
	return []int{at + 1}
}

// isLive looks for a way from a place on, as the chapter's words have it.
func isLive(f api.Fn, at, r int) bool {
	been := make([]bool, len(f.Code))
	for rest := []int{at}; len(rest) > 0; {
		at = rest[0]
		rest = rest[1:]
		switch i := f.Code[at]; {
		case been[at]:
		case reads(i, r):
			return true
		case !writes(i, r):
			rest = append(rest, follow(i, at)...)
		}
		been[at] = true
	}
	return false
}

func modelLive(f api.Fn) [][]int {
	l := make([][]int, len(f.Code))
	for at := range f.Code {
		for r := range f.Kinds {
			if isLive(f, at, r) {
				l[at] = append(l[at], r)
			}
		}
	}
	return l
}

// modelSpans takes what is live as told.
func modelSpans(f api.Fn, live [][]int) []span.Span {
	l := make([]span.Span, len(f.Kinds))
	for r := range l {
		var in []int
		for at, i := range f.Code {
			if slices.Contains(live[at], r) || writes(i, r) || at == 0 && slices.Contains(f.Params, r) {
				in = append(in, at)
			}
		}
		l[r].To = -1
		if len(in) > 0 {
			l[r] = span.Span{From: slices.Min(in), To: slices.Max(in)}
		}
	}
	return l
}

func sameLists(a, b [][]int) bool { return slices.EqualFunc(a, b, slices.Equal[[]int]) }

// asModel holds a function's answers against the model's.
func asModel(t *testing.T, what string, f api.Fn) {
	t.Helper()
	live := modelLive(f)
	if got := span.Live(f); !sameLists(got, live) {
		t.Fatalf("P15.1: %s: Live: %v, want %v: %v", what, got, live, f)
	}
	if got, want := span.Spans(f), modelSpans(f, live); !slices.Equal(got, want) {
		t.Fatalf("P15.1: %s: Spans: %v, want %v: %v", what, got, want, f)
	}
}

// meet looks for an instruction in both.
func meet(a, b span.Span) bool {
	for at := a.From; at <= a.To; at++ {
		if b.From <= at && at <= b.To {
			return true
		}
	}
	return false
}

// most counts at each instruction of some.
func most(l []span.Span, from, to int) int {
	n := 0
	for at := from; at <= to; at++ {
		here := 0
		for _, s := range l {
			if s.From <= at && at <= s.To {
				here++
			}
		}
		n = max(n, here)
	}
	return n
}
