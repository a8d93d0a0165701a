package harden

import "hauberk/api"

// whole is what each function asks of the unit that it is of.
type whole struct {
	sizes   map[string]int // of variables
	answers map[string]int // of which kind functions answer; 0, of one that never does
	mixed   bool           // parts have several sizes
}

func wholeOf(u api.Unit) *whole {
	w := &whole{sizes: map[string]int{}, answers: map[string]int{}}
	for _, t := range u.Tops {
		w.sizes[t.Name] = t.Size
	}
	for _, f := range u.Fns {
		w.answers[f.Name] = answerOf(&f)
	}
	w.mixed = len(partsOf(u)) > 1
	return w
}

func answerOf(f *api.Fn) int {
	for _, i := range f.Code {
		if i.Op == api.MRet && i.A != none {
			return f.Kinds[i.A]
		}
	}
	return 0
}

// partsOf are the sizes that parts have.
func partsOf(u api.Unit) map[int]struct{} {
	sizes := map[int]struct{}{}
	for _, f := range u.Fns {
		for _, i := range f.Code {
			if i.Op == api.MPart {
				sizes[i.Size] = struct{}{}
			}
		}
	}
	return sizes
}
