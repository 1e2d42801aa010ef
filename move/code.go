package move

import (
	"entrepot/api"
	"entrepot/cells"
	"entrepot/items"
)

// Pack has always room: 256 moves of the longest lists have less than half of what a code may have.
func (m *Moves) Pack() []byte {
	if m == nil {
		return nil
	}
	c := cells.New().Num(m.Len())
	for _, w := range m.rising() {
		items.Put(c.Num(w.Move).Num(w.From).Num(w.To), w.Items).Flag(w.Came)
	}
	b, _ := c.Done()
	return b
}

func Unpack(b []byte) (*Moves, api.Errno) {
	t := cells.Take(b)
	m := New()
	last := 0
	for range t.Num(0, api.MaxMoves) {
		w := take(t, last+1)
		// All else that no move is was refused by the taker.
		if w.From == w.To || len(w.Items) == 0 {
			return nil, api.ErrCode
		}
		m.ways[w.Move] = w
		last = w.Move
	}
	if t.Done() != api.OK {
		return nil, api.ErrCode
	}
	return m, api.OK
}

// take takes one whose number is at least least. What it answers of a taker that comes to be at fault may be anything.
func take(t *cells.Taker, least int) api.Way {
	w := api.Way{Move: t.Num(least, api.MaxOrder)}
	w.From, w.To = t.Num(0, api.MaxRegions-1), t.Num(0, api.MaxRegions-1)
	w.Items, w.Came = items.Take(t), t.Flag()
	return w
}
