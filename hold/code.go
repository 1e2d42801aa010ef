package hold

import (
	"entrepot/api"
	"entrepot/cells"
	"entrepot/items"
	"entrepot/stock"
)

// Pack answers nothing of a shelf whose code would be longer than one may be.
func (s *Shelf) Pack() []byte {
	if s == nil {
		return nil
	}
	m := cells.New().Text(string(s.goods.Pack())).Num(len(s.holds))
	for h := range s.Orders() {
		m.Num(h.Order)
		for _, l := range [][]api.Item{h.Held, h.Picked, h.Shipped} {
			items.Put(m, l)
		}
	}
	b, _ := m.Done()
	return b
}

func Unpack(b []byte) (*Shelf, api.Errno) {
	if len(b) > api.MaxCode {
		return nil, api.ErrCode
	}
	t := cells.Take(b)
	goods, e := stock.Unpack([]byte(t.Text(api.MaxCode)))
	if e != api.OK {
		return nil, api.ErrCode
	}
	s := &Shelf{goods: goods, holds: map[int]api.Hold{}}
	last := 0
	for range t.Num(0, api.MaxOrders) {
		h := takeHold(t, last+1)
		if nothing(h) {
			return nil, api.ErrCode
		}
		s.holds[h.Order] = h
		last = h.Order
	}
	if t.Done() != api.OK || !s.Sound() {
		return nil, api.ErrCode
	}
	return s, api.OK
}

// takeHold takes one whose order is at least least.
func takeHold(t *cells.Taker, least int) api.Hold {
	h := api.Hold{Order: t.Num(least, api.MaxOrder)}
	for _, to := range []part{held, picked, shipped} {
		*to(&h) = items.Take(t)
	}
	return h
}
