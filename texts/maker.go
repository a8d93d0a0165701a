package texts

import (
	"strconv"

	"hauberk/api"
	"hauberk/chance"
)

// maker makes texts of programs at random, all of them right; most go on for a while before they go wrong, if they do.
type maker struct {
	chance.Source
	wild     int  // one of so many pointers is anything
	straight bool // none goes to the middle of a struct
	vars     []made
	funcs    []madeFunc
	answer   api.Type
	loops    int
	count    int
}

type made struct {
	name string
	t    api.Type
	len  int
}

type madeFunc struct {
	name   string
	answer api.Type
	params []api.Type
}

func (m *maker) fresh(prefix string) string {
	m.count++
	return prefix + strconv.Itoa(m.count)
}

func (m *maker) rarely() bool { return m.Below(m.wild) == 0 }

// seen are the variables that are as is asked for.
func (m *maker) seen(is func(made) bool) []made {
	var l []made
	for _, v := range m.vars {
		if is(v) {
			l = append(l, v)
		}
	}
	return l
}
