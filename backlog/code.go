package backlog

import (
	"math"

	"entrepot/api"
	"entrepot/cells"
)

func (b *Backlog) Pack() []byte {
	if b == nil {
		return nil
	}
	m := cells.New().Num(b.out).Num(len(b.queue))
	for order, ready := range b.All() {
		m.Num(order).Flag(ready)
	}
	// So few orders are never longer than a code may be.
	c, _ := m.Done()
	return c
}

func Unpack(c []byte) (*Backlog, api.Errno) {
	t := cells.Take(c)
	b := New()
	b.out = t.Num(0, math.MaxInt)
	for place := range t.Num(0, api.MaxQueue) {
		if b.Push(t.Num(1, math.MaxInt)) != api.OK {
			return nil, api.ErrCode
		}
		b.queue[place].ready = t.Flag()
	}
	if t.Done() != api.OK || !b.mayOut() {
		return nil, api.ErrCode
	}
	return b, api.OK
}

// mayOut is whether none is out, or one that is there, and not ready.
func (b *Backlog) mayOut() bool {
	if b.out == 0 {
		return true
	}
	place := b.Place(b.out)
	return place >= 0 && !b.queue[place].ready
}
