package ask

import (
	"math"

	"entrepot/api"
	"entrepot/cells"
	"entrepot/items"
)

func Encode(a api.Ask) ([]byte, api.Errno) {
	if !May(a) {
		return nil, api.ErrArg
	}
	return putBody(cells.New().Num(a.Client).Num(a.Number), a).Done()
}

func Body(a api.Ask) []byte {
	if !May(a) {
		return nil
	}
	b, _ := putBody(cells.New(), a).Done()
	return b
}

func putBody(m *cells.Maker, a api.Ask) *cells.Maker {
	m.Num(a.Kind).Num(a.Order).Num(a.Region).Num(a.To).Num(a.N).Text(a.Good)
	return items.Put(m, a.Items)
}

// Decode leaves to May which numbers there may be.
func Decode(b []byte) (api.Ask, api.Errno) {
	t := cells.Take(b)
	var a api.Ask
	for _, n := range []*int{&a.Client, &a.Number, &a.Kind, &a.Order, &a.Region, &a.To, &a.N} {
		*n = t.Num(math.MinInt, math.MaxInt)
	}
	a.Good = t.Text(api.MaxGood)
	a.Items = items.Take(t)
	if t.Done() != api.OK || !May(a) {
		return api.Ask{}, api.ErrCode
	}
	return a, api.OK
}
