package items

import (
	"entrepot/api"
	"entrepot/cells"
)

func Encode(l []api.Item) ([]byte, api.Errno) {
	if !May(l) {
		return nil, api.ErrItems
	}
	return Put(cells.New(), l).Done()
}

func Decode(b []byte) ([]api.Item, api.Errno) {
	t := cells.Take(b)
	l := Take(t)
	if e := t.Done(); e != api.OK {
		return nil, e
	}
	return l, api.OK
}

func Put(m *cells.Maker, l []api.Item) *cells.Maker {
	m.Num(len(l))
	for good, n := range over(l) {
		m.Text(good).Num(n)
	}
	return m
}

func Take(t *cells.Taker) []api.Item {
	var l []api.Item
	for range t.Num(0, api.MaxItems) {
		good := t.Text(api.MaxGood)
		l = append(l, api.Item{Good: good, N: t.Num(1, api.MaxCount)})
	}
	if !May(l) {
		refuse(t)
		return nil
	}
	return l
}

// refuse puts a taker at fault: no number is within these bounds.
func refuse(t *cells.Taker) {
	t.Num(1, 0)
}
