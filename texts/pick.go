package texts

import "hauberk/chance"

func pick[T any](m *maker, l ...T) T { return chance.Pick(&m.Source, l...) }
