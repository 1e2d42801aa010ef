package stock

import (
	"entrepot/api"
	"entrepot/cells"
	"entrepot/items"
)

func (s *Stock) Pack() []byte {
	if s == nil {
		return nil
	}
	m := cells.New().Num(len(s.rows))
	for good := range s.Goods() {
		s.rows[good].put(m.Text(good))
	}
	// So few goods are never longer than a code may be.
	b, _ := m.Done()
	return b
}

func (r row) put(m *cells.Maker) {
	f := r.flow
	flows := []int{f.Received, f.Returned, f.Counted, f.Came, f.Shipped, f.Scrapped, f.Sent}
	for _, n := range append(levels(r.level), flows...) {
		m.Num(n)
	}
}

func Unpack(b []byte) (*Stock, api.Errno) {
	s, t := New(), cells.Take(b)
	last := ""
	for range t.Num(0, api.MaxGoods) {
		good := t.Text(api.MaxGood)
		r := takeRow(t)
		if !items.Good(good) || good <= last || r.over() || !Balanced(r.level, r.flow) {
			return nil, api.ErrCode
		}
		s.rows[good] = r
		last = good
	}
	if t.Done() != api.OK {
		return nil, api.ErrCode
	}
	return s, api.OK
}

func takeRow(t *cells.Taker) row {
	level := func() int { return t.Num(0, api.MaxCount) }
	flow := func() int { return t.Num(0, api.MaxFlow) }
	var r row
	r.level = api.Level{Free: level(), Held: level(), Picked: level(), Aside: level()}
	r.flow = api.Flow{Received: flow(), Returned: flow()}
	r.flow.Counted = t.Num(-mostCounted, mostCounted)
	r.flow.Came = flow()
	r.flow.Shipped, r.flow.Scrapped, r.flow.Sent = flow(), flow(), flow()
	return r
}
