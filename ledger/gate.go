package ledger

import (
	"sync"

	"daybook/api"
)

// gate lets one call in at a time, and none behind one that has met ErrDown: what the disk holds is not known from then on.
type gate struct {
	mutex sync.Mutex
	up    bool
}

// through does a call whole, ahead of the next one.
func through[T any](g *gate, do func() (T, api.Errno)) (T, api.Errno) {
	g.mutex.Lock()
	defer g.mutex.Unlock()
	if !g.up {
		var none T
		return none, api.ErrDown
	}
	answer, why := do()
	g.up = why != api.ErrDown
	return answer, why
}
