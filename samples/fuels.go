package samples

import (
	"math"
	"strconv"
	"strings"

	"hauberk/api"
)

// Fuels: what a run comes to with so much fuel, and what is wrong of what it does with less and with more; nothing, if with less it is Running, and puts out a beginning, and with more it does the same, where it has stopped.
func Fuels(run func(fuel int) api.Result, limit int) (api.Result, string) {
	whole := run(limit)
	if whole.Steps > limit || whole.State == api.Running && whole.Steps != limit {
		return whole, told(whole, limit)
	}
	out := ""
	for fuel := range whole.Steps {
		r := run(fuel)
		if r.State != api.Running || r.Code != 0 || r.Why != 0 || r.Steps != fuel || r.Checks > whole.Checks ||
			!strings.HasPrefix(string(r.Out), out) || !strings.HasPrefix(string(whole.Out), string(r.Out)) {
			return whole, told(r, fuel)
		}
		out = string(r.Out)
	}
	if whole.State == api.Running {
		return whole, ""
	}
	for _, fuel := range []int{whole.Steps, whole.Steps + 1, whole.Steps * 2, 1<<32 + 1, math.MaxInt} {
		if r := run(fuel); !Same(r, whole) {
			return whole, told(r, fuel)
		}
	}
	return whole, ""
}

func told(r api.Result, fuel int) string {
	return "with " + strconv.Itoa(fuel) + " of fuel: state " + strconv.Itoa(r.State) + ", " + strconv.Itoa(r.Steps) + " steps, " + strconv.Itoa(r.Checks) + " checks, " + strconv.Quote(string(r.Out))
}
