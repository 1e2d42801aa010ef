package saga

import (
	"math"

	"entrepot/api"
	"entrepot/cells"
	"entrepot/items"
)

func Encode(s api.Saga) ([]byte, api.Errno) {
	if !May(s) {
		return nil, api.ErrArg
	}
	m := items.Put(cells.New().Num(s.Order).Num(s.First).Num(s.Regions), s.Want)
	m.Flag(s.Waits).Num(s.State).Num(s.Asked)
	for _, l := range s.Got {
		items.Put(m, l)
	}
	m.Num(len(s.Pending))
	for _, region := range s.Pending {
		m.Num(region)
	}
	return m.Flag(s.Cancelled).Done()
}

// Decode leaves to May which numbers there may be, but for those that say how many come.
func Decode(b []byte) (api.Saga, api.Errno) {
	t := cells.Take(b)
	num := func() int { return t.Num(math.MinInt, math.MaxInt) }
	var s api.Saga
	s.Order, s.First, s.Regions = num(), num(), t.Num(1, api.MaxRegions)
	s.Want, s.Waits = items.Take(t), t.Flag()
	s.State, s.Asked = num(), num()
	for range s.Regions {
		s.Got = append(s.Got, items.Take(t))
	}
	for range t.Num(0, api.MaxRegions) {
		s.Pending = append(s.Pending, num())
	}
	s.Cancelled = t.Flag()
	if t.Done() != api.OK || !May(s) {
		return api.Saga{}, api.ErrCode
	}
	return s, api.OK
}
